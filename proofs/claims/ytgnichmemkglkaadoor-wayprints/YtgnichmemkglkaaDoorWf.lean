import Derived.Test.YtgnichmemkglkaaDoorWe
import Derived.Laws.Concat
namespace Go.Proofs.YtgnichmemkglkaaDoor
open Go.RowKit
set_option linter.unusedVariables false
set_option linter.unusedSimpArgs false

theorem add_run (x y z : ByteArray) (h : x.size + y.size ≤ 9223372036854775807) (hz : z = x ++ y) (w : World) : (Op.stringOp .add x y).run Tryd.prog w = .ok (.string z) w := by
  rw [run_string_add_sum w x y h, hz]
theorem ba_list (x y : ByteArray) : (x ++ y).data.toList = x.data.toList ++ y.data.toList := by simp
theorem stepT_2 (s : ByteArray) (n : Int) : stepT ⟨2, s, n⟩ = [91] ++ Lib.itoa n ++ [93] := by unfold stepT; rw [if_pos rfl]
theorem stepT_3 (s : ByteArray) (n : Int) : stepT ⟨3, s, n⟩ = [126] ++ Lib.itoa n := by unfold stepT; rw [if_neg (by simp), if_pos rfl]
theorem stepT_1 (s : ByteArray) (n : Int) : stepT ⟨1, s, n⟩ = [47] ++ (if plS s = true then s.data.toList else Q.quoL s.data.toList) := by unfold stepT; rw [if_neg (by simp), if_neg (by simp)]
theorem ba_of (x : ByteArray) (L : List UInt8) (h : x.data.toList = L) : x = ⟨L.toArray⟩ := by
  obtain ⟨⟨l⟩⟩ := x
  simp at h
  rw [h]
theorem ba_size (L : List UInt8) : (⟨L.toArray⟩ : ByteArray).size = L.length := by simp [ByteArray.size]
set_option maxRecDepth 100000 in
set_option maxHeartbeats 1000000 in
theorem rprint_any (a : Option Addr) (l : List St) (c : Nat) (w : World) (ha : Sts w a l) (hl : l.length ≤ 140737488355328) (hP : PowB w.heap.size w) :
    Calls Tryd.prog 7 #[.slice a l.length c] w fun e w' => e = .returned (.tuple #[.string (strOf l), .int .i64 (rightL l)]) ∧ Below w.heap.size w w' := by
  have HR := Hid.mk' (rright_l a l c w ha hl)
  by_cases hR : rightL l = 0
  · obtain ⟨h32, hall⟩ := rightL_zero hR
    have HA := Hid.mk' (fun wx (h : Below w.heap.size w wx) => ha.below h)
    have HALL := Hid.mk' hall
    have HP : Hid (∀ wx, Below w.heap.size w wx → PowW wx) := fun wx h => hP wx h
    have hst : strOf l = ⟨(printL l).toArray⟩ := by unfold strOf; rw [if_pos hR]
    rw [hst, hR]
    rw [hR] at HR
    obtain ⟨n, hn⟩ : ∃ n, n = l.length := ⟨_, rfl⟩
    obtain ⟨PL, hPL⟩ : ∃ P, P = printL l := ⟨_, rfl⟩
    have HPL : Hid ((n = 0 → PL = [47]) ∧ (n ≠ 0 → PL = l.flatMap stepT)) := by
      rw [hn, hPL]
      exact ⟨fun h => by unfold printL; rw [if_pos h], fun h => by unfold printL; rw [if_neg h]⟩
    rw [← hPL, ← hn]
    rw [← hn] at h32 HR hl
    have HN := Hid.mk' hn
    clear ha hP hall hst hR hn hPL
    go_enter Tryd.func7, Tryd.ntmps7
    go_wp2_with fail
    refine HR.out.mono ?_
    rintro e w1 ⟨rfl, b1⟩
    have BW1 := Hid.mk' b1
    clear HR b1
    go_wp2
    go_loopw [5, 6] (fun v i wr => ∃ (k : Nat) (S : ByteArray), k ≤ n ∧ v = .string S ∧ i = .int .i64 k ∧ Hid (Below w.heap.size w wr) ∧ Hid (S.data.toList = (l.take k).flatMap stepT) ∧ Hid (k ≤ S.size ∧ S.size ≤ 500 * k)) (fun _ i _ => n - (intOf i).toNat)
    case atStart => exact ⟨0, ⟨#[]⟩, by omega, rfl, rfl, BW1, by simp [Hid], by simp [Hid, ByteArray.size]⟩
    case round =>
      obtain ⟨k, S, hk, rfl, rfl, HW, HS, HL⟩ := hrel
      by_cases hkn : k < n
      · have hkn' : (k : Int) < (n : Int) := by omega
        obtain ⟨b1, o1, p, rfl, hp, c0, c1, c2⟩ := (HA.out wr HW.out).at (i := k) (by rw [← HN.out]; omega)
        have hst := HALL.out k p hp
        have hln := stepT_len hst
        have HF := Hid.mk' (flat_succ hp)
        have ix := fun wx => indexS b1 o1 n c k wx hkn
        have HPW := Hid.mk' (HP.out wr HW.out)
        have hcs := step_cases hst
        obtain ⟨pk, ps, pn⟩ := p
        simp only [] at c0 c1 c2 hcs
        have HEND : Hid (∀ S' : ByteArray, S'.data.toList = S.data.toList ++ stepT ⟨pk, ps, pn⟩ → S'.data.toList = (l.take (k + 1)).flatMap stepT ∧ k + 1 ≤ S'.size ∧ S'.size ≤ 500 * (k + 1)) := fun S' h => by
          have h1 : S'.size = S'.data.toList.length := Array.length_toList.symm
          have h2 : S.size = S.data.toList.length := Array.length_toList.symm
          have h3 := HL.out
          have h4 := congrArg List.length h
          rw [List.length_append] at h4
          refine ⟨by rw [h, HF.out, HS.out], by omega, by omega⟩
        have hS : S.size ≤ 20000 := by have := HL.out.2; omega
        clear hp hst hln HF HL HS
        rcases hcs with ⟨rfl, q1, q2, q3⟩ | ⟨rfl, q1, q2⟩ | ⟨rfl, q1, q2⟩
        · have HRP := Hid.mk' (rplain_any ps wr (by omega))
          rw [decide_eq_true q1, Bool.and_true] at HRP
          have HRQ : Hid (∀ wx, Below w.heap.size w wx → Calls Tryd.prog 17 #[.string ps] wx fun e w' => e = .returned (.string ⟨(Q.quoL ps.data.toList).toArray⟩) ∧ Below wx.heap.size wx w') := fun wx hb => Q.rquote_yes ps wx (by omega) q3
          by_cases hpl : plS ps = true
          · obtain ⟨X1, hX1⟩ : ∃ X : ByteArray, X = ⟨#[47]⟩ ++ ps := ⟨_, rfl⟩
            have A1 := add_run ⟨#[47]⟩ ps X1 (by show 1 + _ ≤ _; omega) hX1
            have z1 : X1.size ≤ 70 := by rw [hX1, ByteArray.size_append]; show 1 + _ ≤ _; omega
            obtain ⟨S3, hS3⟩ : ∃ X : ByteArray, X = S ++ X1 := ⟨_, rfl⟩
            have A3 := add_run S X1 S3 (by omega) hS3
            have HE := Hid.mk' (HEND.out S3 (by rw [hS3, ba_list, stepT_1, hX1, ba_list, if_pos hpl]))
            rw [hpl] at HRP
            clear hX1 hS3 HEND hpl HRQ
            go_wp2_with fail
            refine HRP.out.mono ?_
            rintro e w2 ⟨rfl, b2⟩
            have BW2 : Hid (Below w.heap.size w w2) := by show Below _ _ _; rw [b2]; exact HW.out
            subst b2
            go_wp2
            go_roundw
            case rel => exact ⟨k + 1, S3, by omega, rfl, by go_num, BW2, HE.out.1, HE.out.2⟩
            case measure => simp [intOf]; omega
          · have hpl' : plS ps = false := by simpa using hpl
            obtain ⟨QQ, hQ⟩ : ∃ X : ByteArray, X = ⟨(Q.quoL ps.data.toList).toArray⟩ := ⟨_, rfl⟩
            have hQl : QQ.data.toList = Q.quoL ps.data.toList := by rw [hQ]
            have hQs : QQ.size ≤ 400 := by
              rw [hQ, ba_size]
              have h := Q.quoL_len ps.data.toList
              have h2 : ps.data.toList.length = ps.size := Array.length_toList
              omega
            obtain ⟨X1, hX1⟩ : ∃ X : ByteArray, X = ⟨#[47]⟩ ++ QQ := ⟨_, rfl⟩
            have A1 := add_run ⟨#[47]⟩ QQ X1 (by show 1 + _ ≤ _; omega) hX1
            have z1 : X1.size ≤ 401 := by rw [hX1, ByteArray.size_append]; show 1 + _ ≤ _; omega
            obtain ⟨S3, hS3⟩ : ∃ X : ByteArray, X = S ++ X1 := ⟨_, rfl⟩
            have A3 := add_run S X1 S3 (by omega) hS3
            have HE := Hid.mk' (HEND.out S3 (by rw [hS3, ba_list, stepT_1, hX1, ba_list, if_neg hpl, hQl]))
            rw [hpl'] at HRP
            rw [← hQ] at HRQ
            have HRQ2 := Hid.mk' (HRQ.out wr HW.out)
            clear hX1 hS3 HEND hpl hpl' hQ hQl HRQ
            go_wp2_with fail
            refine HRP.out.mono ?_
            rintro e w2 ⟨rfl, b2⟩
            subst b2
            go_wp2_with fail
            refine HRQ2.out.mono ?_
            rintro e w3 ⟨rfl, b3⟩
            have BW2 : Hid (Below w.heap.size w w3) := HW.out.trans (b3.mono HW.out.size)
            clear b3
            go_wp2
            go_roundw
            case rel => exact ⟨k + 1, S3, by omega, rfl, by go_num, BW2, HE.out.1, HE.out.2⟩
            case measure => simp [intOf]; omega
        · obtain ⟨I, hI⟩ : ∃ I : ByteArray, I = ⟨(Lib.itoa pn).toArray⟩ := ⟨_, rfl⟩
          have hIl : I.data.toList = Lib.itoa pn := by rw [hI]
          have hIs : I.size ≤ 21 := by rw [hI, ba_size]; exact Lib.itoa_length_le pn (by omega) (by omega)
          have HI := Hid.mk' (itoa_any pn wr q1 q2 HPW.out)
          rw [← hI] at HI
          obtain ⟨X1, hX1⟩ : ∃ X : ByteArray, X = ⟨#[91]⟩ ++ I := ⟨_, rfl⟩
          have A1 := add_run ⟨#[91]⟩ I X1 (by show 1 + _ ≤ _; omega) hX1
          have z1 : X1.size ≤ 30 := by rw [hX1, ByteArray.size_append]; show 1 + _ ≤ _; omega
          obtain ⟨X2, hX2⟩ : ∃ X : ByteArray, X = X1 ++ ⟨#[93]⟩ := ⟨_, rfl⟩
          have A2 := add_run X1 ⟨#[93]⟩ X2 (by show _ + 1 ≤ _; omega) hX2
          have z2 : X2.size ≤ 31 := by rw [hX2, ByteArray.size_append]; show _ + 1 ≤ _; omega
          obtain ⟨S3, hS3⟩ : ∃ X : ByteArray, X = S ++ X2 := ⟨_, rfl⟩
          have A3 := add_run S X2 S3 (by omega) hS3
          have HE := Hid.mk' (HEND.out S3 (by rw [hS3, ba_list, stepT_2, hX2, ba_list, hX1, ba_list, hIl]))
          clear hI hX1 hS3 hIl HEND hX2
          go_wp2_with fail
          refine HI.out.mono ?_
          rintro e w2 ⟨rfl, b2⟩
          have BW2 : Hid (Below w.heap.size w w2) := HW.out.trans (b2.mono HW.out.size)
          clear b2
          go_wp2
          go_roundw
          case rel => exact ⟨k + 1, S3, by omega, rfl, by go_num, BW2, HE.out.1, HE.out.2⟩
          case measure => simp [intOf]; omega
        · obtain ⟨I, hI⟩ : ∃ I : ByteArray, I = ⟨(Lib.itoa pn).toArray⟩ := ⟨_, rfl⟩
          have hIl : I.data.toList = Lib.itoa pn := by rw [hI]
          have hIs : I.size ≤ 21 := by rw [hI, ba_size]; exact Lib.itoa_length_le pn (by omega) (by omega)
          have HI := Hid.mk' (itoa_any pn wr q1 q2 HPW.out)
          rw [← hI] at HI
          obtain ⟨X1, hX1⟩ : ∃ X : ByteArray, X = ⟨#[126]⟩ ++ I := ⟨_, rfl⟩
          have A1 := add_run ⟨#[126]⟩ I X1 (by show 1 + _ ≤ _; omega) hX1
          have z1 : X1.size ≤ 30 := by rw [hX1, ByteArray.size_append]; show 1 + _ ≤ _; omega
          obtain ⟨S3, hS3⟩ : ∃ X : ByteArray, X = S ++ X1 := ⟨_, rfl⟩
          have A3 := add_run S X1 S3 (by omega) hS3
          have HE := Hid.mk' (HEND.out S3 (by rw [hS3, ba_list, stepT_3, hX1, ba_list, hIl]))
          clear hI hX1 hS3 hIl HEND 
          go_wp2_with fail
          refine HI.out.mono ?_
          rintro e w2 ⟨rfl, b2⟩
          have BW2 : Hid (Below w.heap.size w w2) := HW.out.trans (b2.mono HW.out.size)
          clear b2
          go_wp2
          go_roundw
          case rel => exact ⟨k + 1, S3, by omega, rfl, by go_num, BW2, HE.out.1, HE.out.2⟩
          case measure => simp [intOf]; omega
      · obtain rfl : k = n := by omega
        have hkn' : ¬ (k : Int) < (k : Int) := by omega
        have hS := HS.out
        rw [List.take_of_length_le (by rw [← HN.out]; exact Nat.le_refl _)] at hS
        have hL := HL.out
        have HW2 := Hid.mk' HW.out
        by_cases h0 : k = 0
        · have e0 : S.toList.isEmpty = true := empty_size (by omega)
          have HPP : Hid (PL = [47]) := HPL.out.1 h0
          clear HPL hS hL HS HL h0
          go_wp2
          go_ret2
          exact ⟨by rw [HPP.out]; rfl, HW2.out⟩
        · have e0 : S.toList.isEmpty = false := K.V.not_empty S (by omega)
          have HPP : Hid (S = ⟨PL.toArray⟩) := ba_of S PL (by rw [hS, HPL.out.2 h0])
          clear HPL hS hL HS HL h0
          go_wp2
          go_ret2
          exact ⟨by rw [← HPP.out]; rfl, HW2.out⟩
  · have hst : strOf l = ⟨#[]⟩ := by unfold strOf; rw [if_neg hR]
    rw [hst]
    clear ha hP hst
    generalize rightL l = R at *
    generalize l.length = n at *
    go_enter Tryd.func7, Tryd.ntmps7
    go_wp2_with fail
    refine HR.out.mono ?_
    rintro e w1 ⟨rfl, b1⟩
    go_wp2
    go_ret2
    exact ⟨rfl, b1⟩
end Go.Proofs.YtgnichmemkglkaaDoor
