import Derived.Test.YtepkanibcljdkaaDoorGWe
import Derived.Laws.Concat
import Derived.Test.YtepkanibcljdkaaDoorGYh
import Derived.Test.YtepkanibcljdkaaDoorGPo
namespace Go.Proofs.YtepkanibcljdkaaDoor
open Go.RowKit
set_option linter.unusedVariables false
set_option linter.unusedSimpArgs false

theorem add_run (x y z : ByteArray) (h : x.size + y.size ≤ 9223372036854775807) (hz : z = x ++ y) (w : World) : (Op.stringOp .add x y).run Tryd.prog w = .ok (.string z) w := by
  rw [run_string_add_sum w x y h, hz]
theorem stepT_2 (s : ByteArray) (n : Int) : stepT ⟨2, s, n⟩ = [91] ++ Lib.itoa n ++ [93] := by unfold stepT; rw [if_pos rfl]
theorem stepT_3 (s : ByteArray) (n : Int) : stepT ⟨3, s, n⟩ = [126] ++ Lib.itoa n := by unfold stepT; rw [if_neg (by simp), if_pos rfl]
theorem stepT_1 (s : ByteArray) (n : Int) : stepT ⟨1, s, n⟩ = [47] ++ (if plS s = true then s.data.toList else Q.quoL s.data.toList) := by unfold stepT; rw [if_neg (by simp), if_neg (by simp)]
set_option maxRecDepth 100000 in
set_option maxHeartbeats 1000000 in
theorem rprint_any (a : Option Addr) (l : List St) (c : Nat) (w : World) (ha : Sts w a l) (hl : l.length ≤ 140737488355328) (hP : PowB w.heap.size w) :
    Calls Tryd.prog 10 #[.slice a l.length c] w fun e w' => e = .returned (.tuple #[.string (strOf l), .int .i64 (rightL l)]) ∧ Below w.heap.size w w' := by
  have HR := Hid.mk' (rright_l a l c w ha hl)
  by_cases hR : rightL l = 0
  · obtain ⟨h32, hall⟩ := rightL_zero hR
    have HA := Hid.mk' (fun wx (h : Below w.heap.size w wx) => ha.below h)
    have HALL := Hid.mk' hall
    have HP : Hid (∀ wx, Below w.heap.size w wx → PowW wx) := fun wx h => hP wx h
    have hst : strOf l = ⟨(printL l).toArray⟩ := by unfold strOf; rw [if_pos hR]
    rw [hst, hR]
    rw [hR] at HR
    obtain ⟨n, hn⟩ : ∃ n, n = l.length := ⟨_, rfl⟩
    obtain ⟨PL, hPL⟩ : ∃ P, P = printL l := ⟨_, rfl⟩
    have HPL : Hid ((n = 0 → PL = [47]) ∧ (n ≠ 0 → PL = l.flatMap stepT)) := by
      rw [hn, hPL]
      exact ⟨fun h => by unfold printL; rw [if_pos h], fun h => by unfold printL; rw [if_neg h]⟩
    rw [← hPL, ← hn]
    rw [← hn] at h32 HR hl
    have HN := Hid.mk' hn
    clear ha hP hall hst hR hn hPL
    go_enter Tryd.func10, Tryd.ntmps10
    go_wp2_with fail
    refine HR.out.mono ?_
    rintro e w1 ⟨rfl, b1⟩
    have BW1 := Hid.mk' b1
    clear HR b1
    go_wp2
    go_loopw [5, 6] (fun v i wr => ∃ (k : Nat) (S : ByteArray), k ≤ n ∧ v = .string S ∧ i = .int .i64 k ∧ Hid (Below w.heap.size w wr) ∧ Hid (S.data.toList = (l.take k).flatMap stepT) ∧ Hid (k ≤ S.size ∧ S.size ≤ 500 * k)) (fun _ i _ => n - (intOf i).toNat)
    case atStart => exact ⟨0, ⟨#[]⟩, by omega, rfl, rfl, BW1, by simp [Hid], by simp [Hid, ByteArray.size]⟩
    case round =>
      obtain ⟨k, S, hk, rfl, rfl, HW, HS, HL⟩ := hrel
      by_cases hkn : k < n
      · have hkn' : (k : Int) < (n : Int) := by omega
        obtain ⟨b1, o1, p, rfl, hp, c0, c1, c2⟩ := (HA.out wr HW.out).at (i := k) (by rw [← HN.out]; omega)
        have hst := HALL.out k p hp
        have hln := stepT_len hst
        have HF := Hid.mk' (flat_succ hp)
        have ix := fun wx => indexS b1 o1 n c k wx hkn
        have HPW := Hid.mk' (HP.out wr HW.out)
        have hcs := step_cases hst
        obtain ⟨pk, ps, pn⟩ := p
        simp only [] at c0 c1 c2 hcs
        have HEND : Hid (∀ S' : ByteArray, S'.data.toList = S.data.toList ++ stepT ⟨pk, ps, pn⟩ → S'.data.toList = (l.take (k + 1)).flatMap stepT ∧ k + 1 ≤ S'.size ∧ S'.size ≤ 500 * (k + 1)) := fun S' h => by
          have h1 : S'.size = S'.data.toList.length := Array.length_toList.symm
          have h2 : S.size = S.data.toList.length := Array.length_toList.symm
          have h3 := HL.out
          have h4 := congrArg List.length h
          rw [List.length_append] at h4
          refine ⟨by rw [h, HF.out, HS.out], by omega, by omega⟩
        have hS : S.size ≤ 20000 := by have := HL.out.2; omega
        clear hp hst hln HF HL HS
        rcases hcs with ⟨rfl, q1, q2, q3⟩ | ⟨rfl, q1, q2⟩ | ⟨rfl, q1, q2⟩
        · have HRP := Hid.mk' (rplain_any ps wr (by omega))
          rw [decide_eq_true q1, Bool.and_true] at HRP
          have HRQ : Hid (∀ wx, Below w.heap.size w wx → Calls Tryd.prog 20 #[.string ps] wx fun e w' => e = .returned (.string ⟨(Q.quoL ps.data.toList).toArray⟩) ∧ Below wx.heap.size wx w') := fun wx hb => Q.rquote_yes ps wx (by omega) q3
          by_cases hpl : plS ps = true
          · obtain ⟨X1, hX1⟩ : ∃ X : ByteArray, X = ⟨#[47]⟩ ++ ps := ⟨_, rfl⟩
            have A1 := add_run ⟨#[47]⟩ ps X1 (by show 1 + _ ≤ _; omega) hX1
            have z1 : X1.size ≤ 70 := by rw [hX1, ByteArray.size_append]; show 1 + _ ≤ _; omega
            obtain ⟨S3, hS3⟩ : ∃ X : ByteArray, X = S ++ X1 := ⟨_, rfl⟩
            have A3 := add_run S X1 S3 (by omega) hS3
            have HE := Hid.mk' (HEND.out S3 (by rw [hS3, ba_list, stepT_1, hX1, ba_list, if_pos hpl]))
            rw [hpl] at HRP
            clear hX1 hS3 HEND hpl HRQ
            go_wp2_with fail
            refine HRP.out.mono ?_
            rintro e w2 ⟨rfl, b2⟩
            have BW2 : Hid (Below w.heap.size w w2) := by show Below _ _ _; rw [b2]; exact HW.out
            subst b2
            go_wp2
            go_roundw
            case rel => exact ⟨k + 1, S3, by omega, rfl, by go_num, BW2, HE.out.1, HE.out.2⟩
            case measure => simp [intOf]; omega
          · have hpl' : plS ps = false := by simpa using hpl
            obtain ⟨QQ, hQ⟩ : ∃ X : ByteArray, X = ⟨(Q.quoL ps.data.toList).toArray⟩ := ⟨_, rfl⟩
            have hQl : QQ.data.toList = Q.quoL ps.data.toList := by rw [hQ]
            have hQs : QQ.size ≤ 400 := by
              rw [hQ, ba_size]
              have h := Q.quoL_len ps.data.toList
              have h2 : ps.data.toList.length = ps.size := Array.length_toList
              omega
            obtain ⟨X1, hX1⟩ : ∃ X : ByteArray, X = ⟨#[47]⟩ ++ QQ := ⟨_, rfl⟩
            have A1 := add_run ⟨#[47]⟩ QQ X1 (by show 1 + _ ≤ _; omega) hX1
            have z1 : X1.size ≤ 401 := by rw [hX1, ByteArray.size_append]; show 1 + _ ≤ _; omega
            obtain ⟨S3, hS3⟩ : ∃ X : ByteArray, X = S ++ X1 := ⟨_, rfl⟩
            have A3 := add_run S X1 S3 (by omega) hS3
            have HE := Hid.mk' (HEND.out S3 (by rw [hS3, ba_list, stepT_1, hX1, ba_list, if_neg hpl, hQl]))
            rw [hpl'] at HRP
            rw [← hQ] at HRQ
            have HRQ2 := Hid.mk' (HRQ.out wr HW.out)
            clear hX1 hS3 HEND hpl hpl' hQ hQl HRQ
            go_wp2_with fail
            refine HRP.out.mono ?_
            rintro e w2 ⟨rfl, b2⟩
            subst b2
            go_wp2_with fail
            refine HRQ2.out.mono ?_
            rintro e w3 ⟨rfl, b3⟩
            have BW2 : Hid (Below w.heap.size w w3) := HW.out.trans (b3.mono HW.out.size)
            clear b3
            go_wp2
            go_roundw
            case rel => exact ⟨k + 1, S3, by omega, rfl, by go_num, BW2, HE.out.1, HE.out.2⟩
            case measure => simp [intOf]; omega
        · obtain ⟨I, hI⟩ : ∃ I : ByteArray, I = ⟨(Lib.itoa pn).toArray⟩ := ⟨_, rfl⟩
          have hIl : I.data.toList = Lib.itoa pn := by rw [hI]
          have hIs : I.size ≤ 21 := by rw [hI, ba_size]; exact Lib.itoa_length_le pn (by omega) (by omega)
          have HI := Hid.mk' (itoa_any pn wr q1 q2 HPW.out)
          rw [← hI] at HI
          obtain ⟨X1, hX1⟩ : ∃ X : ByteArray, X = ⟨#[91]⟩ ++ I := ⟨_, rfl⟩
          have A1 := add_run ⟨#[91]⟩ I X1 (by show 1 + _ ≤ _; omega) hX1
          have z1 : X1.size ≤ 30 := by rw [hX1, ByteArray.size_append]; show 1 + _ ≤ _; omega
          obtain ⟨X2, hX2⟩ : ∃ X : ByteArray, X = X1 ++ ⟨#[93]⟩ := ⟨_, rfl⟩
          have A2 := add_run X1 ⟨#[93]⟩ X2 (by show _ + 1 ≤ _; omega) hX2
          have z2 : X2.size ≤ 31 := by rw [hX2, ByteArray.size_append]; show _ + 1 ≤ _; omega
          obtain ⟨S3, hS3⟩ : ∃ X : ByteArray, X = S ++ X2 := ⟨_, rfl⟩
          have A3 := add_run S X2 S3 (by omega) hS3
          have HE := Hid.mk' (HEND.out S3 (by rw [hS3, ba_list, stepT_2, hX2, ba_list, hX1, ba_list, hIl]))
          clear hI hX1 hS3 hIl HEND hX2
          go_wp2_with fail
          refine HI.out.mono ?_
          rintro e w2 ⟨rfl, b2⟩
          have BW2 : Hid (Below w.heap.size w w2) := HW.out.trans (b2.mono HW.out.size)
          clear b2
          go_wp2
          go_roundw
          case rel => exact ⟨k + 1, S3, by omega, rfl, by go_num, BW2, HE.out.1, HE.out.2⟩
          case measure => simp [intOf]; omega
        · obtain ⟨I, hI⟩ : ∃ I : ByteArray, I = ⟨(Lib.itoa pn).toArray⟩ := ⟨_, rfl⟩
          have hIl : I.data.toList = Lib.itoa pn := by rw [hI]
          have hIs : I.size ≤ 21 := by rw [hI, ba_size]; exact Lib.itoa_length_le pn (by omega) (by omega)
          have HI := Hid.mk' (itoa_any pn wr q1 q2 HPW.out)
          rw [← hI] at HI
          obtain ⟨X1, hX1⟩ : ∃ X : ByteArray, X = ⟨#[126]⟩ ++ I := ⟨_, rfl⟩
          have A1 := add_run ⟨#[126]⟩ I X1 (by show 1 + _ ≤ _; omega) hX1
          have z1 : X1.size ≤ 30 := by rw [hX1, ByteArray.size_append]; show 1 + _ ≤ _; omega
          obtain ⟨S3, hS3⟩ : ∃ X : ByteArray, X = S ++ X1 := ⟨_, rfl⟩
          have A3 := add_run S X1 S3 (by omega) hS3
          have HE := Hid.mk' (HEND.out S3 (by rw [hS3, ba_list, stepT_3, hX1, ba_list, hIl]))
          clear hI hX1 hS3 hIl HEND 
          go_wp2_with fail
          refine HI.out.mono ?_
          rintro e w2 ⟨rfl, b2⟩
          have BW2 : Hid (Below w.heap.size w w2) := HW.out.trans (b2.mono HW.out.size)
          clear b2
          go_wp2
          go_roundw
          case rel => exact ⟨k + 1, S3, by omega, rfl, by go_num, BW2, HE.out.1, HE.out.2⟩
          case measure => simp [intOf]; omega
      · obtain rfl : k = n := by omega
        have hkn' : ¬ (k : Int) < (k : Int) := by omega
        have hS := HS.out
        rw [List.take_of_length_le (by rw [← HN.out]; exact Nat.le_refl _)] at hS
        have hL := HL.out
        have HW2 := Hid.mk' HW.out
        by_cases h0 : k = 0
        · have e0 : S.toList.isEmpty = true := empty_size (by omega)
          have HPP : Hid (PL = [47]) := HPL.out.1 h0
          clear HPL hS hL HS HL h0
          go_wp2
          go_ret2
          exact ⟨by rw [HPP.out]; rfl, HW2.out⟩
        · have e0 : S.toList.isEmpty = false := K.V.not_empty S (by omega)
          have HPP : Hid (S = ⟨PL.toArray⟩) := ba_of S PL (by rw [hS, HPL.out.2 h0])
          clear HPL hS hL HS HL h0
          go_wp2
          go_ret2
          exact ⟨by rw [← HPP.out]; rfl, HW2.out⟩
  · have hst : strOf l = ⟨#[]⟩ := by unfold strOf; rw [if_neg hR]
    rw [hst]
    clear ha hP hst
    generalize rightL l = R at *
    generalize l.length = n at *
    go_enter Tryd.func10, Tryd.ntmps10
    go_wp2_with fail
    refine HR.out.mono ?_
    rintro e w1 ⟨rfl, b1⟩
    go_wp2
    go_ret2
    exact ⟨rfl, b1⟩
end Go.Proofs.YtepkanibcljdkaaDoor

namespace Go.Proofs.YtepkanibcljdkaaDoor
open Go.RowKit
set_option linter.unusedVariables false
set_option linter.unusedSimpArgs false

set_option maxRecDepth 100000 in
set_option maxHeartbeats 1000000 in
theorem prints_all (a : Option Addr) (x : List St) (c1 : Nat) (w : World) (ha : Sts w a x) (na : a = none → x = []) (hx : x.length ≤ 4398046510976) (hT : K.V.Tabs w) (a0 a1 a2 : Addr) (hE : Snt w a0 a1 a2) (hP : PowB w.heap.size w) :
    Calls Tryd.prog 3 #[.slice a x.length c1] w fun e w' => e = .returned (.bool true) ∧ Below w.heap.size w w' := by
  have L1 := Hid.mk' (lent_any a x c1 w ha na (by omega))
  have HA := Hid.mk' (fun wx (h : Below w.heap.size w wx) => ha.below h)
  have HT := Hid.mk' (fun wx (h : Below w.heap.size w wx) => hT.below h)
  have HE := Hid.mk' (fun wx (h : Below w.heap.size w wx) => hE.below h)
  have HP : Hid (∀ wx, Below w.heap.size w wx → PowB wx.heap.size wx) := fun wx h w' h' => hP w' (h.trans (h'.mono h.size))
  have HX := Hid.mk' hx
  clear ha na hT hE hP
  go_enter Tryd.func3, Tryd.ntmps3
  go_wp2_with fail
  refine L1.out.mono ?_
  rintro e w2 ⟨g1, k1, rfl, hk1, s1, b2⟩
  have BW2 := Hid.mk' b2
  have SX : Hid (∀ wx, Below w2.heap.size w2 wx → Sts wx (some ⟨g1, 0, none⟩) (x ++ [mSt])) := fun wx h => s1.below h
  have UP : Hid (∀ wx, Below w2.heap.size w2 wx → Below w.heap.size w wx) := fun wx h => BW2.out.trans (h.mono BW2.out.size)
  have TR : Hid (∀ wx w', Below w2.heap.size w2 wx → Below wx.heap.size wx w' → Below w2.heap.size w2 w') := fun wx w' h k => h.trans (k.mono h.size)
  have lx : x.length ≤ 140737488355328 := by omega
  have CP : Hid (∀ wx, Below w2.heap.size w2 wx → Calls Tryd.prog 9 #[.slice (some ⟨g1, 0, none⟩) x.length k1] wx fun e w' => e = .returned (.tuple #[.string (strOf x), .int .i64 (rightL x)]) ∧ Below w2.heap.size w2 w') := fun wx h =>
    (print_any _ x k1 wx (SX.out wx h).front lx (HT.out wx (UP.out wx h)) a0 a1 a2 (HE.out wx (UP.out wx h)) (HP.out wx (UP.out wx h))).mono fun e w' k => ⟨k.1, TR.out _ _ h k.2⟩
  have CQ : Hid (∀ wx, Below w2.heap.size w2 wx → Calls Tryd.prog 10 #[.slice a x.length c1] wx fun e w' => e = .returned (.tuple #[.string (strOf x), .int .i64 (rightL x)]) ∧ Below w2.heap.size w2 w') := fun wx h =>
    (rprint_any _ x c1 wx (HA.out wx (UP.out wx h)) lx (HP.out wx (UP.out wx h))).mono fun e w' k => ⟨k.1, TR.out _ _ h k.2⟩
  have CR : Hid (∀ wx, Below w2.heap.size w2 wx → Calls Tryd.prog 11 #[.slice (some ⟨g1, 0, none⟩) x.length k1] wx fun e w' => e = .returned (.int .i64 (rightL x)) ∧ Below w2.heap.size w2 w') := fun wx h =>
    (right_l _ x k1 wx (SX.out wx h).front lx (HT.out wx (UP.out wx h)) a0 a1 a2 (HE.out wx (UP.out wx h))).mono fun e w' k => ⟨k.1, TR.out _ _ h k.2⟩
  have CS : Hid (∀ wx, Below w2.heap.size w2 wx → Calls Tryd.prog 12 #[.slice a x.length c1] wx fun e w' => e = .returned (.int .i64 (rightL x)) ∧ Below w2.heap.size w2 w') := fun wx h =>
    (rright_l _ x c1 wx (HA.out wx (UP.out wx h)) lx).mono fun e w' k => ⟨k.1, TR.out _ _ h k.2⟩
  have CK : Hid (∀ wx, Below w2.heap.size w2 wx → Calls Tryd.prog 13 #[.slice (some ⟨g1, 0, none⟩) x.length k1, .slice a x.length c1] wx fun e w' => e = .returned (.bool true) ∧ Below w2.heap.size w2 w') := fun wx h => (kept_any g1 a x k1 c1 wx (SX.out wx h) (HA.out wx (UP.out wx h)) hk1 HX.out).mono fun e w' k => ⟨k.1, TR.out _ _ h k.2⟩
  have B0 : Below w2.heap.size w2 w2 := Below.refl _ _
  clear L1 SX HA HT HE HP s1 b2 HX hk1 lx
  generalize strOf x = ST at *
  generalize rightL x = R at *
  generalize x.length = n at *
  go_wp2_with fail
  refine (CP.out _ B0).mono ?_
  rintro e w3 ⟨rfl, b3⟩
  go_wp2_with fail
  refine (CQ.out _ b3).mono ?_
  rintro e w4 ⟨rfl, b4⟩
  clear CP CQ
  go_wp2_with fail
  refine (CR.out _ b4).mono ?_
  rintro e w5 ⟨rfl, b5⟩
  go_wp2_with fail
  refine (CS.out _ b5).mono ?_
  rintro e w6 ⟨rfl, b6⟩
  go_wp2_with fail
  refine (CK.out _ b6).mono ?_
  rintro e w7 ⟨rfl, b7⟩
  have B7 := Hid.mk' (UP.out _ b7)
  clear b3 b4 b5 b6 b7
  go_wp2
  go_ret
  exact ⟨by simp, B7.out⟩
end Go.Proofs.YtepkanibcljdkaaDoor

namespace Go.Proofs.YtepkanibcljdkaaDoor
open Go.RowKit
set_option linter.unusedVariables false
set_option linter.unusedSimpArgs false

theorem list_47 {s : ByteArray} (h : (s.toList == [47]) = true) : s.data.toList = [47] := by
  rw [ByteArray.toList_eq] at h
  simpa using h
/-- A right way comes back from its text. -/
theorem paF_fwd {l : List St} (h : rightL l = 0) : paF (strOf l) = (l, 0, 0) ∧ 0 < (strOf l).size := by
  obtain ⟨h1, h2⟩ := rightL_zero h
  have h3 : ∀ x ∈ l, stepB x = true := fun x hx => by
    obtain ⟨i, hi⟩ := List.getElem?_of_mem hx
    exact h2 i x hi
  have e : strOf l = ⟨(printL l).toArray⟩ := by unfold strOf; rw [if_pos h]
  have hz : (strOf l).size = (printL l).length := by rw [e]; simp [ByteArray.size]
  by_cases h0 : l = []
  · subst h0
    have e2 : printL [] = [47] := rfl
    rw [e2] at hz e
    refine ⟨?_, by rw [hz]; simp⟩
    rw [paF_root (by rw [hz]; simp) (by rw [ByteArray.toList_eq, e]; rfl)]
  · have hlen : 0 < l.length := List.length_pos_iff.2 h0
    have e2 : printL l = l.flatMap stepT := by unfold printL; rw [if_neg (by omega)]
    have hf := flat_140 l h3
    rw [e2] at hz
    have ed : (strOf l).data.toList = l.flatMap stepT := by rw [e, e2]
    refine ⟨?_, by omega⟩
    have h47 : ((strOf l).toList == [47]) = false := by
      cases hc : ((strOf l).toList == [47]) with
      | false => rfl
      | true =>
        have := list_47 hc
        rw [ed] at this
        rw [this] at hf
        simp at hf
        omega
    rw [paF_go (by omega) h47, rP_fwd (strOf l) l _ 0 [] h0 h3 (by rw [List.drop_zero, ed]) (by omega) (by simp; omega)]
    rfl
/-- What is taken is printed so. -/
theorem paF_back {s : ByteArray} (h : (paF s).2.1 = 0) : rightL (paF s).1 = 0 ∧ strOf (paF s).1 = s := by
  by_cases h5 : 5000 < s.size
  · rw [paF_long h5] at h
    simp at h
  · cases h47 : (s.toList == [47]) with
    | true =>
      rw [paF_root (by omega) h47]
      refine ⟨rfl, ?_⟩
      apply ba_ext
      rw [list_47 h47]
      rfl
    | false =>
      have e := paF_go (by omega) h47
      generalize hR : rP s (s.size + 1) 0 [] = R at e
      obtain ⟨L, p, ok⟩ := R
      cases ok with
      | false => rw [e] at h; simp [cvP] at h
      | true =>
        obtain ⟨r1, r2, r3, r4⟩ := rP_back s (s.size + 1) 0 [] L p (Nat.zero_le _) (by simp) (by simp) hR
        have e2 : (paF s).1 = L := by rw [e]; rfl
        rw [e2]
        have hr : rightL L = 0 := by
          unfold rightL
          rw [if_neg (by omega), if_pos (List.all_eq_true.2 r3)]
        refine ⟨hr, ?_⟩
        have hl : 0 < L.length := List.length_pos_iff.2 r1
        unfold strOf printL
        rw [if_pos hr, if_neg (by omega), r4]
        apply ba_ext
        simp
set_option maxRecDepth 100000 in
set_option maxHeartbeats 1000000 in
theorem back_all (a : Option Addr) (x : List St) (c1 : Nat) (w : World) (ha : Sts w a x) (hx : x.length ≤ 4398046510976) (hT : K.V.Tabs w) (a0 a1 a2 : Addr) (hE : Snt w a0 a1 a2) (hP : PowB w.heap.size w) :
    Calls Tryd.prog 5 #[.slice a x.length c1] w fun e w' => e = .returned (.bool true) ∧ Below w.heap.size w w' := by
  have lx : x.length ≤ 140737488355328 := by omega
  have H1 := Hid.mk' (print_any a x c1 w ha lx hT a0 a1 a2 hE hP)
  have CR : Hid (∀ wx, Below w.heap.size w wx → Calls Tryd.prog 11 #[.slice a x.length c1] wx fun e w' => e = .returned (.int .i64 (rightL x)) ∧ Below wx.heap.size wx w') := fun wx h =>
    right_l _ x c1 wx (ha.below h) lx (hT.below h) a0 a1 a2 (hE.below h)
  have CS : Hid (∀ wx, Below w.heap.size w wx → Calls Tryd.prog 12 #[.slice a x.length c1] wx fun e w' => e = .returned (.int .i64 (rightL x)) ∧ Below wx.heap.size wx w') := fun wx h =>
    rright_l _ x c1 wx (ha.below h) lx
  have TR : Hid (∀ wx w', Below w.heap.size w wx → Below wx.heap.size wx w' → Below w.heap.size w w') := fun wx w' h k => h.trans (k.mono h.size)
  by_cases hR : rightL x = 0
  · obtain ⟨hp, hz⟩ := paF_fwd hR
    have HP : Hid (∀ w1, Below w.heap.size w w1 → Calls Tryd.prog 14 #[.string (strOf x)] w1 fun e w' => ∃ v, e = .returned (.tuple #[v, .int .i64 0, .int .i64 0]) ∧ OwnS w' w1.heap.size v x ∧ Below w1.heap.size w1 w') := fun w1 h => by
      have k := parse_any (strOf x) w1 (hT.below h) a0 a1 a2 (hE.below h)
      rw [hp] at k
      exact k
    have HS : Hid (∀ vb vd wx, Below w.heap.size w wx → Sts wx vb x → Calls Tryd.prog 16 #[.slice a x.length c1, .slice vb x.length vd] wx fun e w' => e = .returned (.bool true) ∧ Below wx.heap.size wx w') := fun vb vd wx h sb => by
      have k := same_any a vb x x c1 vd wx (ha.below h) sb lx lx
      rw [decide_eq_true (cL_zero.2 rfl)] at k
      exact k
    have e0 : (strOf x).toList.isEmpty = false := K.V.not_empty _ hz
    rw [hR] at H1 CR
    generalize strOf x = T at *
    obtain ⟨n, hn⟩ : ∃ n, n = x.length := ⟨_, rfl⟩
    have HN := Hid.mk' hn
    rw [← hn] at H1 CR HS ⊢
    clear hT hE hP ha hn hp hz hR CS lx hx
    go_enter Tryd.func5, Tryd.ntmps5
    go_wp2_with fail
    refine H1.out.mono ?_
    rintro e w1 ⟨rfl, b1⟩
    have B1 := Hid.mk' b1
    clear H1 b1
    go_wp2_with fail
    refine (HP.out w1 B1.out).mono ?_
    rintro e w2 ⟨v, rfl, own, b2⟩
    obtain ⟨vb, vd, rfl, _, S2⟩ := own.slice
    rw [← HN.out]
    have B2 : Hid (Below w.heap.size w w2) := TR.out _ _ B1.out b2
    have S2' := Hid.mk' S2
    clear HP own b2 S2 B1
    go_wp2_with fail
    refine (CR.out w2 B2.out).mono ?_
    rintro e w3 ⟨rfl, b3⟩
    have S3 := Hid.mk' (S2'.out.below b3)
    have B3 : Hid (Below w.heap.size w w3) := TR.out _ _ B2.out b3
    clear CR S2' b3 B2
    go_wp2_with fail
    refine (HS.out vb vd w3 B3.out S3.out).mono ?_
    rintro e w4 ⟨rfl, b4⟩
    have B4 : Hid (Below w.heap.size w w4) := TR.out _ _ B3.out b4
    clear HS S3 b4 B3
    go_wp2
    go_ret
    exact ⟨by simp, B4.out⟩
  · have e1 : strOf x = ⟨#[]⟩ := by unfold strOf; rw [if_neg hR]
    have hR' : (rightL x == 0) = false := beq_eq_false_iff_ne.2 hR
    rw [e1] at H1
    generalize rightL x = R at *
    generalize x.length = n at *
    clear hT hE hP ha hR lx hx e1
    go_enter Tryd.func5, Tryd.ntmps5
    go_wp2_with fail
    refine H1.out.mono ?_
    rintro e w1 ⟨rfl, b1⟩
    have B1 := Hid.mk' b1
    clear H1 b1
    go_wp2_with fail
    refine (CR.out w1 B1.out).mono ?_
    rintro e w2 ⟨rfl, b2⟩
    have B2 : Hid (Below w.heap.size w w2) := TR.out _ _ B1.out b2
    clear CR b2 B1
    go_wp2_with fail
    refine (CS.out w2 B2.out).mono ?_
    rintro e w3 ⟨rfl, b3⟩
    have B3 : Hid (Below w.heap.size w w3) := TR.out _ _ B2.out b3
    clear CS b3 B2
    go_wp2
    go_ret
    exact ⟨by simp, B3.out⟩
def aSt : List St := [⟨1, ⟨#[97]⟩, 0⟩, ⟨2, ⟨#[]⟩, 3⟩, ⟨3, ⟨#[]⟩, 0⟩]
theorem aSt_str : rightL aSt = 0 ∧ strOf aSt = ⟨#[47, 97, 91, 51, 93, 126, 48]⟩ := by
  have k1 : keyB ⟨#[97]⟩ = true := by
    unfold keyB rightB
    rw [show Lib.validD (⟨#[97]⟩ : ByteArray).data.toList = true from valid_plain _ (by decide)]
    decide
  have h : rightL aSt = 0 := by
    unfold rightL aSt
    rw [if_neg (by decide), if_pos]
    simp [stepB, k1, ByteArray.size]
  refine ⟨h, ?_⟩
  have i3 : Lib.itoa 3 = [51] := by rw [itoa_dec (by decide)]; exact dec_small (by decide)
  have i0 : Lib.itoa 0 = [48] := by rw [itoa_dec (by decide)]; exact dec_small (by decide)
  unfold strOf printL
  rw [if_pos h, if_neg (by decide)]
  apply ba_ext
  have p1 : plS ⟨#[97]⟩ = true := by decide
  simp [aSt, stepT, i3, i0, p1]
set_option maxRecDepth 100000 in
set_option maxHeartbeats 1000000 in
theorem only_all (s : ByteArray) (w : World) (hT : K.V.Tabs w) (a0 a1 a2 : Addr) (hE : Snt w a0 a1 a2) (hP : PowB w.heap.size w) :
    Calls Tryd.prog 6 #[.string s] w fun e w' => e = .returned (.bool true) ∧ Below w.heap.size w w' := by
  have H1 := Hid.mk' (parse_any s w hT a0 a1 a2 hE)
  have TR : Hid (∀ wx w', Below w.heap.size w wx → Below wx.heap.size wx w' → Below w.heap.size w w') := fun wx w' h k => h.trans (k.mono h.size)
  have hlen := paF_len s
  by_cases hc : (paF s).2.1 = 0
  · obtain ⟨hr, hs⟩ := paF_back hc
    have HP : Hid (∀ va vc w1, Below w.heap.size w w1 → Sts w1 va (paF s).1 → Calls Tryd.prog 9 #[.slice va (paF s).1.length vc] w1 fun e w' => e = .returned (.tuple #[.string s, .int .i64 0]) ∧ Below w1.heap.size w1 w') := fun va vc w1 h sa => by
      have k := print_any va (paF s).1 vc w1 sa (by omega) (hT.below h) a0 a1 a2 (hE.below h) (fun w' h' => hP w' (h.trans (h'.mono h.size)))
      rw [hs, hr] at k
      exact k
    have CR : Hid (∀ va vc wx, Below w.heap.size w wx → Sts wx va (paF s).1 → Calls Tryd.prog 11 #[.slice va (paF s).1.length vc] wx fun e w' => e = .returned (.int .i64 0) ∧ Below wx.heap.size wx w') := fun va vc wx h sa => by
      have k := right_l va (paF s).1 vc wx sa (by omega) (hT.below h) a0 a1 a2 (hE.below h)
      rw [hr] at k
      exact k
    rw [hc] at H1
    have ss : (s.toList == s.toList) = true := by simp
    generalize paF s = A at *
    obtain ⟨L, c, k⟩ := A
    simp only [] at H1 HP CR
    obtain ⟨n, hn⟩ : ∃ n, n = L.length := ⟨_, rfl⟩
    have HN := Hid.mk' hn
    rw [← hn] at HP CR
    clear hT hE hP hn hc hr hs hlen
    go_enter Tryd.func6, Tryd.ntmps6
    go_wp2_with fail
    refine H1.out.mono ?_
    rintro e w1 ⟨v, rfl, own, b1⟩
    obtain ⟨va, vc, rfl, _, S1⟩ := own.slice
    rw [← HN.out]
    have B1 := Hid.mk' b1
    have S1' := Hid.mk' S1
    clear H1 b1 own S1 HN
    go_wp2_with fail
    refine (HP.out va vc w1 B1.out S1'.out).mono ?_
    rintro e w2 ⟨rfl, b2⟩
    have B2 : Hid (Below w.heap.size w w2) := TR.out _ _ B1.out b2
    have S2 := Hid.mk' (S1'.out.below b2)
    clear HP b2 B1 S1'
    go_wp2_with fail
    refine (CR.out va vc w2 B2.out S2.out).mono ?_
    rintro e w3 ⟨rfl, b3⟩
    have B3 : Hid (Below w.heap.size w w3) := TR.out _ _ B2.out b3
    clear CR b3 B2 S2
    go_wp2
    go_ret
    exact ⟨by simp, B3.out⟩
  · have hc' : ((paF s).2.1 == 0) = false := beq_eq_false_iff_ne.2 hc
    have HP : Hid (∀ w1, Below w.heap.size w w1 → Calls Tryd.prog 14 #[.string ⟨#[47, 97, 91, 51, 93, 126, 48]⟩] w1 fun e w' => ∃ v, e = .returned (.tuple #[v, .int .i64 0, .int .i64 0]) ∧ OwnS w' w1.heap.size v aSt ∧ Below w1.heap.size w1 w') := fun w1 h => by
      have k := parse_any (strOf aSt) w1 (hT.below h) a0 a1 a2 (hE.below h)
      rw [(paF_fwd aSt_str.1).1, aSt_str.2] at k
      exact k
    generalize paF s = A at *
    obtain ⟨L, c, k⟩ := A
    simp only [] at H1 hc'
    clear hT hE hP hc hlen
    go_enter Tryd.func6, Tryd.ntmps6
    go_wp2_with fail
    refine H1.out.mono ?_
    rintro e w1 ⟨v, rfl, own, b1⟩
    have B1 := Hid.mk' b1
    clear H1 b1 own
    go_wp2_with fail
    refine (HP.out w1 B1.out).mono ?_
    rintro e w2 ⟨v2, rfl, own2, b2⟩
    obtain ⟨vb, vd, rfl, _, _⟩ := own2.slice
    have B2 : Hid (Below w.heap.size w w2) := TR.out _ _ B1.out b2
    rw [show aSt.length = 3 from rfl]
    clear HP own2 b2 B1
    go_wp2
    go_ret
    exact ⟨by simp, B2.out⟩
end Go.Proofs.YtepkanibcljdkaaDoor

