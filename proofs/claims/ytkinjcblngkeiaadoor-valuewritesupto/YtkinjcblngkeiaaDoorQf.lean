import Derived.Test.YtkinjcblngkeiaaDoorQr
import Derived.Test.YtkinjcblngkeiaaDoorPf
import Derived.Laws.FloatArith
namespace Go.Proofs.YtkinjcblngkeiaaDoor
open Go.RowKit
set_option linter.unusedVariables false
set_option linter.unusedSimpArgs false

theorem fsub_fin (f : Nat) (h : ffin f) : FloatKind.f64.format.sub f f = some 0 := by
  show Ieee.double.sub f f = some 0
  unfold Ieee.Format.sub
  rw [fread f h]
  generalize (f / 2 ^ 63 % 2 == 1) = sg
  generalize fmag (f % 2 ^ 63) = m
  generalize (Ieee.double.leastPlace + (fplace (f % 2 ^ 63) : Nat)) = e
  simp only [Ieee.Datum.opposite, Ieee.Datum.sum, Int.min_self, Int.sub_self]
  have ht : Ieee.signed sg m (0 : Int).toNat + Ieee.signed (!sg) m (0 : Int).toNat = 0 := by
    cases sg <;> simp [Ieee.signed] <;> omega
  rw [ht]
  have hs : (if (0 : Int) = 0 then (sg && !sg) else decide ((0 : Int) < 0)) = false := by cases sg <;> rfl
  rw [hs]
  simp only [Option.map_some, Int.natAbs_zero, Ieee.Format.write, Option.some.injEq]
  unfold Ieee.Format.nearest
  rw [if_pos rfl]
  rfl
theorem fsub_not (f : Nat) (h : ¬ ffin f) : FloatKind.f64.format.sub f f = none := by
  show Ieee.double.sub f f = none
  have e1 : Ieee.double.signWeight = 2 ^ 63 := rfl
  have e2 : Ieee.double.binade = 2 ^ 52 := rfl
  have e3 : Ieee.double.infRung = 2047 * 2 ^ 52 := rfl
  unfold ffin at h
  unfold Ieee.Format.sub Ieee.Format.read
  rw [e1, e2, e3]
  by_cases hi : f % 2 ^ 63 = 2047 * 2 ^ 52
  · simp only [if_neg (show ¬ f % 2 ^ 63 < 2 ^ 52 by omega), if_neg (show ¬ f % 2 ^ 63 < 2047 * 2 ^ 52 by omega), if_pos hi]
    generalize (f / 2 ^ 63 % 2 == 1) = sg
    cases sg <;> rfl
  · simp only [if_neg (show ¬ f % 2 ^ 63 < 2 ^ 52 by omega), if_neg (show ¬ f % 2 ^ 63 < 2047 * 2 ^ 52 by omega), if_neg hi]
    rfl
/-- The NaN that a difference without an answer gives. -/
def nanOf (f : Nat) (w : World) : Nat := (Question.nanBits .f64 f f).cut (w.tape w.drawn (.nanBits .f64 f f))
theorem sub_nan (f : Nat) (h : FloatKind.f64.format.sub f f = none) (w : World) : (binOp .sub 32 (.float .f64 f) (.float .f64 f)).run Tryd.prog w = .ok (.float .f64 (nanOf f w)) w.drew := by
  simp [binOp, Op.floatArith, h, Question.forced]
  rfl
theorem ford_nan0 (x : Nat) (h : 9218868437227405312 < x % 9223372036854775808) : (FloatKind.f64.format.order x 0 == some .eq) = false := by
  have e : Ieee.double.order x 0 = none := by
    have e1 : Ieee.double.signWeight = 2 ^ 63 := rfl
    have e2 : Ieee.double.binade = 2 ^ 52 := rfl
    have e3 : Ieee.double.infRung = 2047 * 2 ^ 52 := rfl
    unfold Ieee.Format.order Ieee.Format.read
    rw [e1, e2, e3]
    simp only [if_neg (show ¬ x % 2 ^ 63 < 2 ^ 52 by omega), if_neg (show ¬ x % 2 ^ 63 < 2047 * 2 ^ 52 by omega), if_neg (show ¬ x % 2 ^ 63 = 2047 * 2 ^ 52 by omega)]
    rfl
  show (Ieee.double.order x 0 == some .eq) = false
  rw [e]
  rfl
theorem nanOf_hi (f : Nat) (w : World) : 9218868437227405312 < nanOf f w % 9223372036854775808 := by
  unfold nanOf Question.cut
  simp only
  generalize w.tape w.drawn (.nanBits .f64 f f) = t
  have h1 : t % 2 < 2 := Nat.mod_lt _ (by decide)
  have h2 : t / 2 % (2 ^ 52 - 1) < 2 ^ 52 - 1 := Nat.mod_lt _ (by decide)
  generalize t % 2 = p at *
  generalize t / 2 % (2 ^ 52 - 1) = q at *
  obtain rfl | rfl : p = 0 ∨ p = 1 := by omega
  · omega
  · omega
set_option maxRecDepth 100000 in
set_option maxHeartbeats 400000 in
theorem qfin_any (f : Nat) (w : World) :
    Calls Tryd.prog 72 #[.float .f64 f] w fun e w' => e = .returned (.bool (finN f)) ∧ ∃ m, w' = w.drewN m := by
  by_cases h : ffin f
  · have e1 : finN f = true := by unfold finN; unfold ffin at h; rw [decide_eq_true (by omega)]
    rw [e1]
    have hs := fun wx => run_float_arith (P := Tryd.prog) wx .sub 32 .f64 f f 0 (fsub_fin f h)
    have z : (FloatKind.f64.format.order 0 0 == some .eq) = true := by decide +kernel
    clear h e1
    go_enter Tryd.func72, Tryd.ntmps72
    go_wp2
    go_ret
    exact ⟨rfl, 0, rfl⟩
  · have e1 : finN f = false := by unfold finN; unfold ffin at h; rw [decide_eq_false (by omega)]
    rw [e1]
    have hs := sub_nan f (fsub_not f h) w
    have z := ford_nan0 (nanOf f w) (nanOf_hi f w)
    generalize nanOf f w = N at *
    clear h e1
    go_enter Tryd.func72, Tryd.ntmps72
    go_wp2
    go_ret
    exact ⟨rfl, 1, rfl⟩

variable {T : TypeId} {r cap : Nat} {a : Option Addr} {L : List UInt8} {s : St}
set_option maxRecDepth 100000 in
set_option maxHeartbeats 2000000 in
theorem qfloat_any (w : World) (h : RD w T r a cap L s) :
    Calls Tryd.prog 59 #[.pointer (some ⟨r, 0, none⟩)] w fun e w' => e = .returned (.float .f64 (rFloat L s).1) ∧ On w w' T r a cap L (rFloat L s).2 := by
  by_cases hb : s.bad = 0
  · by_cases hk : s.k + 8 ≤ L.length
    · have HE := Hid.mk' (qends_ok 8 (by decide) w h hb hk)
      obtain ⟨b, off, ea, hc⟩ := rd_cell h
      obtain ⟨rfl, hbr⟩ := ea (by omega)
      have hf := h.few
      have HC : Hid (∀ wx, On w wx T r (some ⟨b, off, none⟩) cap L s → ∀ j, j < 8 → wx.cell? ⟨b, off + (s.k + j), none⟩ = some (.int .u8 ((L.getD (s.k + j) 0).toNat : Int))) := fun wx hx j hj => hx.2.cell (p := ⟨b, off + (s.k + j), none⟩) hbr (hc (s.k + j) (by omega))
      have HK := Hid.mk' (qfail_on (a := some ⟨b, off, none⟩) (cap := cap) (L := L) (T := T) (r := r) w hb 21 (s.k : Int) (by decide))
      have hE : rFloat L s = (if finB (be L s.k 8) = true then (be L s.k 8, ⟨s.k + 8, s.bad, s.wh⟩) else (0, ⟨s.k, 21, s.k⟩)) := by unfold rFloat; rw [if_pos hb, if_pos hk]
      obtain ⟨R, hR⟩ : ∃ R, rFloat L s = R := ⟨_, rfl⟩
      rw [hR] at hE ⊢
      have HRR := Hid.mk' hE
      have HBL := Hid.mk' (be_lt L s.k)
      have HF8 := Hid.mk' (qfin_any (be L s.k 8))
      clear h hc ea hE hR
      go_enter Tryd.func59, Tryd.ntmps59
      go_wp2_with fail
      refine HE.out.mono ?_
      rintro e w1 ⟨rfl, ho⟩
      have HON := Hid.mk' ho
      clear ho HE
      go_wp2
      go_loopw [3, 4] (fun n i wr => ∃ j : Nat, n = .int .u64 (be L s.k j : Int) ∧ i = .int .i64 (j : Int) ∧ j ≤ 8 ∧ Hid (On w wr T r (some ⟨b, off, none⟩) cap L s)) (fun _ i _ => 8 - (intOf i).toNat)
      case atStart => exact ⟨0, rfl, rfl, by omega, HON⟩
      case round =>
        clear HON
        obtain ⟨j, rfl, rfl, hj, HON⟩ := hrel
        by_cases hj8 : j < 8
        · have hj8' : (j : Int) < 8 := by omega
          have cc := HC.out wr HON.out j hj8
          have c0 := HON.out.1.c0
          have c1 := HON.out.1.c1
          have htn : ((s.k : Int) + (j : Int)).toNat = s.k + j := by omega
          have hlt : ((s.k : Int) + (j : Int)) < (L.length : Int) := by omega
          have hbl := HBL.out j
          have hp : 256 ^ j ≤ 256 ^ 7 := Nat.pow_le_pow_right (by omega) (by omega)
          have hbj : be L s.k (j + 1) = be L s.k j * 256 + (L.getD (s.k + j) 0).toNat := rfl
          have hby := (L.getD (s.k + j) 0).toNat_lt
          generalize (L.getD (s.k + j) 0).toNat = bn at *
          have hB : be L s.k j < 72057594037927936 := by omega
          have HBJ := Hid.mk' hbj
          clear hbj hbl hp
          generalize be L s.k j = B at *
          go_wp2
          go_quiet (fail)
          go_wp2
          exact ⟨⟨j + 1, congrArg _ (by rw [HBJ.out]; push_cast; rfl), by go_num, by omega, HON.out.drew nq⟩, by simp [intOf]; omega⟩
        · obtain rfl : j = 8 := by omega
          clear hj8 hj
          have hF : be L s.k 8 < 18446744073709551616 := HBL.out 8
          generalize be L s.k 8 = F at *
          have c1 := HON.out.1.c1
          have f1 := HON.out.1.fz 1
          clear HC HBL
          by_cases hfin : finN F = true
          · rw [hfin] at HF8
            by_cases h63 : F = 9223372036854775808
            · have h63' : (F : Int) = 9223372036854775808 := by omega
              have HR2 := Hid.mk' (HRR.out.trans (if_neg (show ¬ finB F = true by unfold finB; rw [decide_eq_false (by omega)]; simp)))
              rw [h63] at HF8
              clear HRR hfin h63
              go_wp2_with fail
              refine (HF8.out _).mono ?_
              rintro e w2 ⟨rfl, m, hw2⟩
              have HON2 : Hid (On w w2 T r (some ⟨b, off, none⟩) cap L s) := by show On _ _ _ _ _ _ _ _; rw [hw2]; exact HON.out.drew m
              clear hw2 HON c1 f1
              have c1 := HON2.out.1.c1
              have f1 := HON2.out.1.fz 1
              go_wp2_with fail
              refine (HK.out _ HON2.out).mono ?_
              rintro e w3 ⟨rfl, ho⟩
              have HO := Hid.mk' ho
              clear ho
              go_wp2
              go_ret
              exact ⟨by first | (rw [HR2.out]; done) | (rw [HR2.out]; rfl), by rw [HR2.out]; exact HO.out⟩
            · have h63' : ¬ (F : Int) = 9223372036854775808 := by omega
              have HR2 := Hid.mk' (HRR.out.trans (if_pos (show finB F = true by unfold finB; rw [hfin, decide_eq_true h63]; rfl)))
              clear HRR hfin h63
              go_wp2_with fail
              refine (HF8.out _).mono ?_
              rintro e w2 ⟨rfl, m, hw2⟩
              have HON2 : Hid (On w w2 T r (some ⟨b, off, none⟩) cap L s) := by show On _ _ _ _ _ _ _ _; rw [hw2]; exact HON.out.drew m
              clear hw2 HON c1 f1
              have c1 := HON2.out.1.c1
              have f1 := HON2.out.1.fz 1
              have HO := Hid.mk' (HON2.out.set1 (s.k + 8) ((s.k : Int) + 8) (by omega) hk)
              go_wp2
              go_ret
              exact ⟨by first | (rw [HR2.out]; done) | (rw [HR2.out]; rfl), by rw [HR2.out]; exact HO.out⟩
          · have hfin' : finN F = false := by simpa using hfin
            rw [hfin'] at HF8
            have HR2 := Hid.mk' (HRR.out.trans (if_neg (show ¬ finB F = true by unfold finB; rw [hfin']; simp)))
            clear HRR hfin hfin'
            go_wp2_with fail
            refine (HF8.out _).mono ?_
            rintro e w2 ⟨rfl, m, hw2⟩
            have HON2 : Hid (On w w2 T r (some ⟨b, off, none⟩) cap L s) := by show On _ _ _ _ _ _ _ _; rw [hw2]; exact HON.out.drew m
            clear hw2 HON c1 f1
            have c1 := HON2.out.1.c1
            have f1 := HON2.out.1.fz 1
            go_wp2_with fail
            refine (HK.out _ HON2.out).mono ?_
            rintro e w3 ⟨rfl, ho⟩
            have HO := Hid.mk' ho
            clear ho
            go_wp2
            go_ret
            exact ⟨by first | (rw [HR2.out]; done) | (rw [HR2.out]; rfl), by rw [HR2.out]; exact HO.out⟩
    · have e0 : rFloat L s = (0, ⟨s.k, 20, L.length⟩) := by unfold rFloat; rw [if_pos hb, if_neg hk]
      rw [e0]
      clear e0
      have HE := Hid.mk' (qends_no 8 (by decide) w h hb hk)
      clear h
      go_enter Tryd.func59, Tryd.ntmps59
      go_wp2_with fail
      refine HE.out.mono ?_
      rintro e w1 ⟨rfl, ho⟩
      have HO := Hid.mk' ho
      clear ho
      go_wp2
      go_ret
      exact ⟨rfl, HO.out⟩
  · have e0 : rFloat L s = (0, s) := by unfold rFloat; rw [if_neg hb]
    rw [e0]
    have HE := Hid.mk' (qends_bad 8 (by decide) w h hb)
    clear h e0
    go_enter Tryd.func59, Tryd.ntmps59
    go_wp2_with fail
    refine HE.out.mono ?_
    rintro e w1 ⟨rfl, ho⟩
    have HO := Hid.mk' ho
    clear ho
    go_wp2
    go_ret
    exact ⟨rfl, HO.out⟩
end Go.Proofs.YtkinjcblngkeiaaDoor
