import Derived.Test.YtdajeabhhkgibaaKPa
namespace Go.Proofs.Ytdajeabhhkgibaa.K
open Go.RowKit
set_option linter.unusedVariables false
set_option linter.unusedSimpArgs false

theorem Hid.mk' {p : Prop} (h : p) : Hid p := h
theorem or64_nat (a b : Nat) (ha : a < 18446744073709551616) (hb : b < 18446744073709551616) : bits .or .u64 (a : Int) (b : Int) = ((a ||| b : Nat) : Int) := by
  have hx : a ||| b < 2 ^ 64 := Nat.or_lt_two_pow (by omega) (by omega)
  have o : ∀ x : Nat, x < 18446744073709551616 → (BitVec.ofInt 64 (x : Int)).toNat = x := fun x h => by
    rw [BitVec.toNat_ofInt]; omega
  show IntKind.u64.wrap ((BitVec.ofInt 64 (a : Int) ||| BitVec.ofInt 64 (b : Int)).toNat : Int) = _
  rw [BitVec.toNat_or, o a ha, o b hb, IntKind.wrap_u64]
  omega
theorem or_num (vv b i : Nat) (hv : vv < 2 ^ (7 * i)) (hb : vv + b * 2 ^ (7 * i) < 18446744073709551616) :
    bits .or .u64 (vv : Int) (IntKind.u64.wrap ((b : Int) * 2 ^ (7 * (i : Int)).toNat)) = ((vv + b * 2 ^ (7 * i) : Nat) : Int) := by
  have e1 : (7 * (i : Int)).toNat = 7 * i := by omega
  have e2 : (b : Int) * 2 ^ (7 * i) = ((b * 2 ^ (7 * i) : Nat) : Int) := by push_cast; rfl
  rw [e1, e2, IntKind.wrap_u64, show ((b * 2 ^ (7 * i) : Nat) : Int) % 18446744073709551616 = ((b * 2 ^ (7 * i) : Nat) : Int) by omega, or64_nat _ _ (by omega) (by omega)]
  congr 1
  rw [Nat.or_comm, ← Nat.shiftLeft_eq, ← Nat.shiftLeft_add_eq_or_of_lt hv, Nat.shiftLeft_eq]
  omega
theorem pow7 (i : Nat) (h : i ≤ 8) : 128 * 2 ^ (7 * i) ≤ 9223372036854775808 := by
  have : 2 ^ (7 * i) ≤ 2 ^ 56 := Nat.pow_le_pow_right (by omega) (by omega)
  omega
theorem pow7s (i : Nat) : 2 ^ (7 * (i + 1)) = 128 * 2 ^ (7 * i) := by rw [Nat.mul_add, Nat.pow_add]; omega

theorem or_j (vv b j : Nat) (hv : vv < 2 ^ (7 * j)) (hj : j ≤ 8) (hb : b < 128) : bits .or .u64 (vv : Int) (IntKind.u64.wrap ((b : Int) * 2 ^ (7 * j))) = ((vv + b * 2 ^ (7 * j) : Nat) : Int) := by
  have := or_num vv b j hv (by
    have := pow7 j hj
    have : b * 2 ^ (7 * j) ≤ 127 * 2 ^ (7 * j) := Nat.mul_le_mul_right _ (by omega)
    omega)
  rwa [show (7 * (j : Int)).toNat = 7 * j by omega] at this
theorem or_9 (vv b : Nat) (hv : vv < 2 ^ (7 * 9)) (hb : b ≤ 1) : bits .or .u64 (vv : Int) ((b : Int) * 9223372036854775808) = ((vv + b * 2 ^ (7 * 9) : Nat) : Int) := by
  have := or_num vv b 9 hv (by omega)
  rw [show (7 * ((9 : Nat) : Int)).toNat = 63 by decide, IntKind.wrap_u64] at this
  rw [← this]
  congr 1
  omega
theorem or_0 (vv b : Nat) (hv : vv < 2 ^ (7 * 0)) (hb : b < 128) : bits .or .u64 (vv : Int) (b : Int) = ((vv + b * 2 ^ (7 * 0) : Nat) : Int) := by
  have := or_num vv b 0 hv (by omega)
  rw [show (7 * ((0 : Nat) : Int)).toNat = 0 by decide, IntKind.wrap_u64] at this
  rw [← this]
  congr 1
  omega
theorem tup3 {a b : Int} {c d : Value} {e f : Value} (h : a = b) (h2 : c = d) (h3 : e = f) : Ending.returned (.tuple #[.int .u64 a, c, e]) = .returned (.tuple #[.int .u64 b, d, f]) := by rw [h, h2, h3]

variable {T : TypeId} {r cap : Nat} {a : Option Addr} {L : List UInt8} {s : St}
/-- The bytes from a place on, as cells. -/
theorem RD.cells {w : World} (h : RD w T r a cap L s) : L.length = s.k ∨ ∃ b off, from23 a cap s.k = some ⟨b, off, none⟩ ∧ s.k < L.length ∧ b ≠ r ∧ ∀ j, s.k + j < L.length → w.cell? ⟨b, off + j, none⟩ = some (.int .u8 (at8 L (s.k + j))) := by
  by_cases hk : s.k < L.length
  · right
    rcases byt_from h.byt cap s.k h.room with e | ⟨b, off, e, hc⟩
    · have := congrArg List.length e
      simp at this
      omega
    · refine ⟨b, off, e, hk, (plain_from h.plain cap s.k _ e).2, fun j hj => ?_⟩
      have := hc j (by rw [List.length_drop]; omega)
      rw [at8_drop] at this
      exact this
  · left
    have := h.at_le
    omega

set_option maxRecDepth 100000 in
set_option maxHeartbeats 1000000 in
theorem number_any (w : World) (h : RD w T r a cap L s) (hb : s.bad = 0) :
    Calls Try.prog 108 #[.pointer (some ⟨r, 0, none⟩)] w fun e w' => e = .returned (.tuple #[.int .u64 ((num L s.k).v : Int), .int .i64 ((num L s.k).size : Int), .bool (decide ((num L s.k).why = 0))]) ∧ On w w' T r a cap L (s.fl (num L s.k).why (num L s.k).place) := by
  obtain ⟨N, hN⟩ : ∃ N, num L s.k = N := ⟨_, rfl⟩
  rw [hN]
  have HN : Hid (numL L.length s.k (L.drop (s.k + 0)) 0 0 = N) := hN
  have HR : Hid (∀ m e p, Calls Try.prog 109 #[.pointer (some ⟨r, 0, none⟩), .int .i64 e, .int .i64 p] (w.drewN m) fun x w' => x = .returned (.bool (decide (e = 0))) ∧ On w w' T r a cap L (s.fl e p)) := fun m e p => (keep_any e p (w.drewN m) (h.drew m)).mono fun x w' hx => by
    refine ⟨?_, hx.2.1, (Fr.drew r w m).trans hx.2.2⟩
    rw [hx.1]
    congr 2
    by_cases he : e = 0
    · subst he; simp [St.fl_ok, hb]
    · rw [St.fl_new s e p hb he]
  have HA : Hid (∀ m, Calls Try.prog 106 #[.pointer (some ⟨r, 0, none⟩)] (w.drewN m) fun e w' => e = .returned (.int .i64 (s.k : Int)) ∧ w' = w.drewN m) := fun m => cat_any (w.drewN m) (h.drew m)
  clear hN
  have hk := h.at_le
  have hf := h.few
  have c0 := h.c0
  have c1 := h.c1
  have s1 := sl_from a L.length cap s.k (s.k : Int) rfl hk
  have s2 := sl_from' a L.length cap s.k (s.k : Int) rfl hk
  rcases h.cells with hz | ⟨b, off, eA, hlt, hbr, hc⟩
  · clear h
    have hz2 : L.length - s.k = 0 := by omega
    rw [hz2] at s1 s2
    have eN : N = ⟨0, 0, 20, L.length⟩ := by rw [← HN.out]; exact num_end L s.k 0 0 (by omega)
    subst eN
    clear HN hz hz2
    generalize from23 a cap s.k = a4 at *
    generalize cap - s.k = c4 at *
    go_enter Try.func108, Try.ntmps108
    go_wp2
    go_step3
    go_wp2
    go_quiet (fail)
    go_wp2
    go_step3
    go_wp2
    go_quiet (fail)
    go_wp2
    go_loopw [5, 6, 7, 8, 29] (fun v sz y p i wr => v = .int .u64 0 ∧ sz = .int .i64 0 ∧ y = .int .i64 20 ∧ p = .int .i64 (L.length : Int) ∧ i = .int .i64 0 ∧ ∃ m, wr = w.drewN m) (fun _ _ _ _ _ _ => 0)
    case atStart => exact ⟨rfl, rfl, rfl, rfl, rfl, _, World.drewN_drewN ..⟩
    case round =>
      obtain ⟨rfl, rfl, rfl, rfl, rfl, m, rfl⟩ := hrel
      go_wp2_with fail
      refine (HR.out m 20 (L.length : Int)).mono ?_
      rintro e w1 ⟨rfl, ho⟩
      have HO : Hid (On w w1 T r a cap L (s.fl 20 (L.length : Int))) := ho
      clear ho
      go_wp2
      simp only [Exit.noGoto]
      go_ret3
      exact ⟨rfl, HO.out⟩
  · clear h
    rw [eA] at s1 s2
    clear eA
    generalize cap - s.k = c4 at *
    have hn1 : ((L.length - s.k : Nat) : Int) = (L.length : Int) - (s.k : Int) := by omega
    generalize hD : L.length - s.k = D at *
    go_enter Try.func108, Try.ntmps108
    go_wp2
    go_step3
    go_wp2
    go_quiet (fail)
    go_wp2
    go_step3
    go_wp2
    go_quiet (fail)
    go_wp2
    go_loopw [5, 6, 7, 8, 29] (fun v sz y p i wr => ∃ j vv : Nat, v = .int .u64 (vv : Int) ∧ sz = .int .i64 0 ∧ y = .int .i64 20 ∧ p = .int .i64 (L.length : Int) ∧ i = .int .i64 (j : Int) ∧ j ≤ 9 ∧ Hid (vv < 2 ^ (7 * j)) ∧ Hid (numL L.length s.k (L.drop (s.k + j)) j vv = N) ∧ ∃ m, wr = w.drewN m) (fun _ _ _ _ i _ => 10 - (intOf i).toNat)
    case atStart => exact ⟨0, 0, rfl, rfl, rfl, rfl, rfl, by omega, by show 0 < 2 ^ (7 * 0); decide, HN, _, World.drewN_drewN ..⟩
    case round =>
      clear HN
      obtain ⟨j, vv, rfl, rfl, rfl, rfl, rfl, hj, HV, HN, m, rfl⟩ := hrel
      by_cases hend : (j : Int) < (D : Int)
      · have cc := hc j (by omega)
        obtain ⟨bn, hbn⟩ : ∃ bn : Nat, at8 L (s.k + j) = (bn : Int) := ⟨_, rfl⟩
        have hb255 : bn ≤ 255 := by have := at8_hi L (s.k + j); omega
        rw [hbn] at cc
        have hst := num_step L s.k j vv bn (by omega) hbn
        rw [HN.out] at hst
        clear hbn HN
        by_cases hbad : (j = 9 ∧ 1 < bn) ∨ (0 < j ∧ bn = 0)
        · rw [if_pos hbad] at hst
          subst hst
          rcases hbad with ⟨h9, h1⟩ | ⟨h9, h1⟩
          · subst h9
            have h1' : (1 : Int) < (bn : Int) := by omega
            go_wp2_with (first | (go_at_call 106; refine (HA.out m).mono ?_; rintro e w1 ⟨rfl, hw1⟩; subst hw1) | fail)
            refine (HR.out m 21 _).mono ?_
            rintro e w1 ⟨rfl, ho⟩
            have HO := Hid.mk' ho
            clear ho
            go_wp2
            simp only [Exit.noGoto]
            go_ret3
            exact ⟨rfl, HO.out⟩
          · subst h1
            have h9' : (0 : Int) < (j : Int) := by omega
            by_cases h99 : j = 9
            · subst h99
              go_wp2_with (first | (go_at_call 106; refine (HA.out m).mono ?_; rintro e w1 ⟨rfl, hw1⟩; subst hw1) | fail)
              refine (HR.out m 21 _).mono ?_
              rintro e w1 ⟨rfl, ho⟩
              have HO := Hid.mk' ho
              clear ho
              go_wp2
              simp only [Exit.noGoto]
              go_ret3
              exact ⟨rfl, HO.out⟩
            · have h99' : ¬ (j : Int) = 9 := by omega
              go_wp2_with (first | (go_at_call 106; refine (HA.out m).mono ?_; rintro e w1 ⟨rfl, hw1⟩; subst hw1) | fail)
              refine (HR.out m 21 _).mono ?_
              rintro e w1 ⟨rfl, ho⟩
              have HO := Hid.mk' ho
              clear ho
              go_wp2
              simp only [Exit.noGoto]
              go_ret3
              exact ⟨rfl, HO.out⟩
        · rw [if_neg hbad] at hst
          by_cases hsm : bn < 128
          · rw [if_pos hsm] at hst
            have hsm' : (bn : Int) < 128 := by omega
            by_cases h99 : j = 9
            · subst h99
              have hb1 : ¬ (1 : Int) < (bn : Int) := by omega
              have hb0 : ¬ (bn : Int) = 0 := by omega
              have OR := Hid.mk' (or_9 vv bn HV.out (by omega))
              subst hst
              clear hbad
              go_wp2_with fail
              refine (HR.out m 0 _).mono ?_
              rintro e w1 ⟨rfl, ho⟩
              have HO := Hid.mk' ho
              clear ho
              go_wp2
              simp only [Exit.noGoto]
              go_ret3
              exact ⟨tup3 OR.out rfl rfl, HO.out⟩
            · have h99' : ¬ (j : Int) = 9 := by omega
              by_cases h00 : j = 0
              · subst h00
                have OR := Hid.mk' (or_0 vv bn HV.out (by omega))
                rw [Nat.add_zero] at cc
                subst hst
                clear hbad
                go_wp2_with fail
                refine (HR.out m 0 _).mono ?_
                rintro e w1 ⟨rfl, ho⟩
                have HO := Hid.mk' ho
                clear ho
                go_wp2
                simp only [Exit.noGoto]
                go_ret3
                exact ⟨tup3 OR.out rfl rfl, HO.out⟩
              · have h00' : (0 : Int) < (j : Int) := by omega
                have hb0 : ¬ (bn : Int) = 0 := by omega
                have OR := Hid.mk' (or_j vv bn j HV.out (by omega) hsm)
                have h7 : (7 : Int) * (j : Int) ≤ 64 := by omega
                subst hst
                clear hbad
                go_wp2_with fail
                refine (HR.out m 0 _).mono ?_
                rintro e w1 ⟨rfl, ho⟩
                have HO := Hid.mk' ho
                clear ho
                go_wp2
                simp only [Exit.noGoto]
                go_ret3
                exact ⟨tup3 OR.out rfl rfl, HO.out⟩
          · rw [if_neg hsm] at hst
            have hsm' : ¬ (bn : Int) < 128 := by omega
            have hb0 : ¬ (bn : Int) = 0 := by omega
            have h99 : j ≠ 9 := fun h => hbad (.inl ⟨h, by omega⟩)
            have h99' : ¬ (j : Int) = 9 := by omega
            have HST := Hid.mk' hst.symm
            have hV2 : Hid (vv + (bn - 128) * 2 ^ (7 * j) < 2 ^ (7 * (j + 1))) := by
              show _ < _
              have hV := HV.out
              rw [pow7s]
              have : (bn - 128) * 2 ^ (7 * j) ≤ 127 * 2 ^ (7 * j) := Nat.mul_le_mul_right _ (by omega)
              omega
            have hsub : ((bn : Int) - 128) = ((bn - 128 : Nat) : Int) := by omega
            have OR := Hid.mk' (or_j vv (bn - 128) j HV.out (by omega) (by omega))
            clear hst hbad
            by_cases h00 : j = 0
            · subst h00
              rw [Nat.add_zero] at cc
              have OR0 := Hid.mk' (or_0 vv (bn - 128) HV.out (by omega))
              go_wp2_with fail
              exact ⟨⟨0 + 1, vv + (bn - 128) * 2 ^ (7 * 0), congrArg _ OR0.out, rfl, rfl, rfl, rfl, by omega, hV2, HST, m, rfl⟩, by simp [intOf]⟩
            · have h00' : (0 : Int) < (j : Int) := by omega
              have h7 : (7 : Int) * (j : Int) ≤ 64 := by omega
              go_wp2_with fail
              exact ⟨⟨j + 1, vv + (bn - 128) * 2 ^ (7 * j), congrArg _ OR.out, rfl, rfl, rfl, by go_num, by omega, hV2, HST, m, rfl⟩, by simp [intOf]; omega⟩
      · have eN : N = ⟨vv, 0, 20, L.length⟩ := by rw [← HN.out]; exact num_end L s.k j vv (by omega)
        subst eN
        clear HN
        go_wp2_with fail
        refine (HR.out m 20 _).mono ?_
        rintro e w1 ⟨rfl, ho⟩
        have HO := Hid.mk' ho
        clear ho
        go_wp2
        simp only [Exit.noGoto]
        go_ret3
        exact ⟨rfl, HO.out⟩
end Go.Proofs.Ytdajeabhhkgibaa.K
