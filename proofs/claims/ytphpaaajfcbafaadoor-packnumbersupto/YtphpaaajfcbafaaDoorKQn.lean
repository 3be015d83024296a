import Derived.Test.YtphpaaajfcbafaaDoorKQa
namespace Go.Proofs.YtphpaaajfcbafaaDoor.K
open Go.RowKit
set_option linter.unusedVariables false
set_option linter.unusedSimpArgs false

theorem ad_j (vv b j : Nat) (h : vv + b * 2 ^ (7 * j) < 18446744073709551616) : IntKind.u64.wrap ((vv : Int) + IntKind.u64.wrap ((b : Int) * 2 ^ (7 * j))) = (vv : Int) + (b : Int) * 2 ^ (7 * j) := by
  have e2 : (b : Int) * 2 ^ (7 * j) = ((b * 2 ^ (7 * j) : Nat) : Int) := by push_cast; rfl
  rw [e2, IntKind.wrap_u64, IntKind.wrap_u64]
  generalize b * 2 ^ (7 * j) = p at *
  omega
theorem tup2 {a b : Int} {c d : Value} (h : a = b) (h2 : c = d) : Ending.returned (.tuple #[.int .u64 a, c]) = .returned (.tuple #[.int .u64 b, d]) := by rw [h, h2]
theorem sm_j (vv b j : Nat) (hv : vv < 2 ^ (7 * j)) (hj : j ≤ 8) (hb : b < 128) : vv + b * 2 ^ (7 * j) < 18446744073709551616 := by
  have := pow7 j hj
  have : b * 2 ^ (7 * j) ≤ 127 * 2 ^ (7 * j) := Nat.mul_le_mul_right _ (by omega)
  omega
variable {T : TypeId} {r cap : Nat} {a : Option Addr} {L : List UInt8} {s : St}
set_option maxRecDepth 100000 in
set_option maxHeartbeats 1000000 in
theorem qnumber_any (w : World) (h : RD w T r a cap L s) (hb : s.bad = 0) :
    Calls Tryd.prog 59 #[.pointer (some ⟨r, 0, none⟩)] w fun e w' => e = .returned (.tuple #[.int .u64 (if (num L s.k).why = 0 then ((num L s.k).v : Int) else 0), .int .i64 (if (num L s.k).why = 0 then ((num L s.k).size : Int) else 0)]) ∧ On w w' T r a cap L (s.fl (num L s.k).why (num L s.k).place) := by
  obtain ⟨N, hN⟩ : ∃ N, num L s.k = N := ⟨_, rfl⟩
  rw [hN]
  have HN : Hid (numL L.length s.k (L.drop (s.k + 0)) 0 0 = N) := hN
  have HK := Hid.mk' (qfail_on (a := a) (cap := cap) (L := L) (T := T) (r := r) w hb)
  clear hN
  have hk := h.at_le
  have hf := h.few
  obtain ⟨b, off, ea, hc⟩ := rd_cell h
  have HR := Hid.mk' h.on
  have HC : Hid (∀ wx, On w wx T r a cap L s → ∀ j, j < L.length → a = some ⟨b, off, none⟩ ∧ wx.cell? ⟨b, off + j, none⟩ = some (.int .u8 (at8 L j))) := fun wx hx j hj => ⟨(ea (by omega)).1, hx.2.cell (p := ⟨b, off + j, none⟩) (ea (by omega)).2 (hc j hj)⟩
  clear h ea hc
  go_enter Tryd.func59, Tryd.ntmps59
  go_wp2
  go_loopw [4, 5] (fun v i wr => ∃ j vv : Nat, v = .int .u64 (vv : Int) ∧ i = .int .i64 (j : Int) ∧ j ≤ 9 ∧ Hid (vv < 2 ^ (7 * j)) ∧ Hid (numL L.length s.k (L.drop (s.k + j)) j vv = N) ∧ Hid (On w wr T r a cap L s)) (fun _ i _ => 10 - (intOf i).toNat)
  case atStart => exact ⟨0, 0, rfl, rfl, by omega, by show 0 < 2 ^ (7 * 0); decide, HN, HR⟩
  case round =>
    clear HN HR
    obtain ⟨j, vv, rfl, rfl, hj, HV, HN, HON⟩ := hrel
    have c0 := HON.out.1.c0
    have c1 := HON.out.1.c1
    have hj10 : (j : Int) < 10 := by omega
    by_cases hend : s.k + j < L.length
    · have hend' : ¬ (L.length : Int) ≤ (s.k : Int) + (j : Int) := by omega
      obtain ⟨rfl, -⟩ := HC.out wr HON.out (s.k + j) hend
      obtain ⟨bn, hbn⟩ : ∃ bn : Nat, at8 L (s.k + j) = (bn : Int) := ⟨_, rfl⟩
      have hb255 : bn ≤ 255 := by have := at8_hi L (s.k + j); omega
      have hst := num_step L s.k j vv bn (by omega) hbn
      rw [HN.out] at hst
      have HC' : Hid (∀ wx, On w wx T r (some ⟨b, off, none⟩) cap L s → wx.cell? ⟨b, off + (s.k + j), none⟩ = some (.int .u8 (bn : Int))) := fun wx hx => by
        rw [← hbn]
        exact (HC.out wx hx (s.k + j) hend).2
      have htn : ((s.k : Int) + (j : Int)).toNat = s.k + j := by omega
      clear hbn HN HC
      go_wp2
      go_quiet (fail)
      have HON1 := Hid.mk' (HON.out.drew nq)
      generalize wr.drewN nq = W1 at *
      clear HON c0 c1
      have c0 := HON1.out.1.c0
      have c1 := HON1.out.1.c1
      have cc := HC'.out _ HON1.out
      go_wp2
      go_quiet (fail)
      have HON2 := Hid.mk' (HON1.out.drew nq)
      generalize W1.drewN nq = W2 at *
      clear HON1 c0 c1 cc HC'
      have c1 := HON2.out.1.c1
      by_cases hbad : (j = 9 ∧ 1 < bn) ∨ (0 < j ∧ bn = 0)
      · rw [if_pos hbad] at hst
        subst hst
        rcases hbad with ⟨h9, h1⟩ | ⟨h9, h1⟩
        · subst h9
          have h1' : (1 : Int) < (bn : Int) := by omega
          go_wp2_with fail
          refine (HK.out 21 _ (by decide) _ HON2.out).mono ?_
          rintro e w1 ⟨rfl, ho⟩
          have HO := Hid.mk' ho
          clear ho
          go_wp2
          go_ret2
          exact ⟨rfl, by rw [St.fl_new _ _ _ hb (by decide)]; exact HO.out⟩
        · subst h1
          have h9' : (0 : Int) < (j : Int) := by omega
          by_cases h99 : j = 9
          · subst h99
            go_wp2_with fail
            refine (HK.out 21 _ (by decide) _ HON2.out).mono ?_
            rintro e w1 ⟨rfl, ho⟩
            have HO := Hid.mk' ho
            clear ho
            go_wp2
            go_ret2
            exact ⟨rfl, by rw [St.fl_new _ _ _ hb (by decide)]; exact HO.out⟩
          · have h99' : ¬ (j : Int) = 9 := by omega
            go_wp2_with fail
            refine (HK.out 21 _ (by decide) _ HON2.out).mono ?_
            rintro e w1 ⟨rfl, ho⟩
            have HO := Hid.mk' ho
            clear ho
            go_wp2
            go_ret2
            exact ⟨rfl, by rw [St.fl_new _ _ _ hb (by decide)]; exact HO.out⟩
      · rw [if_neg hbad] at hst
        by_cases hsm : bn < 128
        · rw [if_pos hsm] at hst
          have hsm' : (bn : Int) < 128 := by omega
          have hmod : (bn : Int) % 128 = (bn : Int) := by omega
          by_cases h99 : j = 9
          · subst h99
            have hb1 : ¬ (1 : Int) < (bn : Int) := by omega
            have hb0 : ¬ (bn : Int) = 0 := by omega
            subst hst
            clear hbad
            go_wp2_with fail
            go_ret2
            exact ⟨tup2 (by rw [IntKind.wrap_u64]; have := HV.out; omega) rfl, by rw [St.fl_ok]; exact HON2.out⟩
          · have h99' : ¬ (j : Int) = 9 := by omega
            by_cases h00 : j = 0
            · subst h00
              subst hst
              clear hbad
              go_wp2_with fail
              go_ret2
              exact ⟨tup2 (by rw [IntKind.wrap_u64]; have := HV.out; omega) rfl, by rw [St.fl_ok]; exact HON2.out⟩
            · have h00' : (0 : Int) < (j : Int) := by omega
              have hb0 : ¬ (bn : Int) = 0 := by omega
              have h7 : (7 : Int) * (j : Int) ≤ 64 := by omega
              subst hst
              clear hbad
              go_wp2_with fail
              go_ret2
              exact ⟨tup2 (ad_j vv bn j (sm_j vv bn j HV.out (by omega) hsm)) rfl, by rw [St.fl_ok]; exact HON2.out⟩
        · rw [if_neg hsm] at hst
          have hsm' : ¬ (bn : Int) < 128 := by omega
          have hmod : (bn : Int) % 128 = ((bn - 128 : Nat) : Int) := by omega
          have hb0 : ¬ (bn : Int) = 0 := by omega
          have h99 : j ≠ 9 := fun h => hbad (.inl ⟨h, by omega⟩)
          have h99' : ¬ (j : Int) = 9 := by omega
          have HST := Hid.mk' hst.symm
          have hV2 : Hid (vv + (bn - 128) * 2 ^ (7 * j) < 2 ^ (7 * (j + 1))) := by
            show _ < _
            have hV := HV.out
            rw [pow7s]
            have : (bn - 128) * 2 ^ (7 * j) ≤ 127 * 2 ^ (7 * j) := Nat.mul_le_mul_right _ (by omega)
            omega
          clear hst hbad
          by_cases h00 : j = 0
          · subst h00
            go_wp2_with fail
            exact ⟨⟨0 + 1, vv + (bn - 128) * 2 ^ (7 * 0), congrArg _ (by rw [IntKind.wrap_u64]; have := HV.out; omega), rfl, by omega, hV2, HST, HON2⟩, by simp [intOf]⟩
          · have h00' : (0 : Int) < (j : Int) := by omega
            have h7 : (7 : Int) * (j : Int) ≤ 64 := by omega
            go_wp2_with fail
            exact ⟨⟨j + 1, vv + (bn - 128) * 2 ^ (7 * j), congrArg _ (by rw [ad_j vv (bn - 128) j (sm_j vv (bn - 128) j HV.out (by omega) (by omega))]; push_cast; rfl), by go_num, by omega, hV2, HST, HON2⟩, by simp [intOf]; omega⟩
    · have eN : N = ⟨vv, 0, 20, L.length⟩ := by rw [← HN.out]; exact num_end L s.k j vv hend
      subst eN
      have hend' : (L.length : Int) ≤ (s.k : Int) + (j : Int) := by omega
      clear HN HC
      go_wp2
      go_quiet (fail)
      have HON1 := Hid.mk' (HON.out.drew nq)
      generalize wr.drewN nq = W1 at *
      clear HON c0 c1
      have c0 := HON1.out.1.c0
      go_wp2_with fail
      refine (HK.out 20 _ (by decide) _ HON1.out).mono ?_
      rintro e w1 ⟨rfl, ho⟩
      have HO := Hid.mk' ho
      clear ho
      go_wp2
      go_ret2
      exact ⟨rfl, by rw [St.fl_new _ _ _ hb (by decide)]; exact HO.out⟩
end Go.Proofs.YtphpaaajfcbafaaDoor.K
