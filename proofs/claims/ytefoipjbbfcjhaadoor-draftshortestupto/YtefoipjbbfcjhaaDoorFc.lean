import Derived.Test.YtefoipjbbfcjhaaDoorDd
import Derived.Test.YtefoipjbbfcjhaaDoorFb
import Derived.Test.YtefoipjbbfcjhaaDoorDg
namespace Go.Proofs.YtefoipjbbfcjhaaDoor
open Go.RowKit
set_option linter.unusedVariables false
set_option linter.unusedSimpArgs false

set_option maxRecDepth 100000 in
set_option maxHeartbeats 1000000 in
theorem split9_any (s : ByteArray) (w : World) (hs : s.size ≤ 8388608) (hv : Lib.validD s.data.toList = true) :
    Calls Tryd.prog 9 #[.string s] w fun e w' => ∃ v, e = .returned v ∧ w'.ownsRow w.heap.size 9 1 v (rn s).length (sV (rn s)) ∧ Below w.heap.size w w' := by
  have H0 := Hid.mk' (World.ownsRow_nil w w.heap.size 9 1)
  have HV : Hid (Lib.validD (s.data.toList.drop 0) = true) := by show _ = _; simpa using hv
  have HR : Hid (rn s = [] ++ rnL (s.size - 0) (s.data.toList.drop 0)) := by show _ = _; simp [rn]
  generalize hRR : rn s = R at *
  clear hv hRR
  go_enter Tryd.func9, Tryd.ntmps9
  go_wp2
  go_loopw [3, 4] (fun l i wr => ∃ (k : Nat) (d : List Nat), k ≤ s.size ∧ d.length ≤ k ∧ i = .int .i64 k ∧ Hid (wr.ownsRow w.heap.size 9 1 l d.length (sV d)) ∧ Hid (Below w.heap.size w wr) ∧ Hid (Lib.validD (s.data.toList.drop k) = true) ∧ Hid (R = d ++ rnL (s.size - k) (s.data.toList.drop k))) (fun _ i _ => s.size - (intOf i).toNat)
  case atStart => exact ⟨0, [], by omega, by simp, rfl, H0, Below.refl _ _, HV, HR⟩
  case round =>
    obtain ⟨k, d, hk, hdk, rfl, HO, HB, HVk, HRk⟩ := hrel
    clear H0 HV HR
    by_cases h1 : k < s.size
    · have h1' : (k : Int) < (s.size : Int) := by omega
      obtain ⟨r, m, hm0, hm1, hw, hx, hv2, hr2⟩ := ext_enc s k h1 HVk.out
      obtain ⟨t, ht⟩ : ∃ t, s.extract k s.size = t := ⟨_, rfl⟩
      have zt : t.size = s.size - k := by rw [← ht, Lib.ext_size]
      have HW : Hid (∀ wx, Calls Tryd.prog 22 #[.string t] wx fun e w' => e = .returned (.int .i64 (m : Int)) ∧ w' = wx) := fun wx => by
        have := Q.wide_any t wx (by omega)
        rw [← ht, hw] at this
        rw [← ht]
        exact this
      have hm' : ¬ (m : Int) = 0 := by omega
      have HR2 : Hid (R = (d ++ [r]) ++ rnL (s.size - (k + m)) (s.data.toList.drop (k + m))) := by show _ = _; rw [HRk.out, hr2]; simp
      have HV2 := Hid.mk' hv2
      have HX := Hid.mk' hx
      clear hw hv2 hr2 HVk HRk hx
      have hd1 : Hid (d.length + 1 ≤ maxLen) := by show _ ≤ _; unfold maxLen; omega
      have hd2 : Hid ((d.length + 1) * 16 ≤ 140737488355328) := by show _ ≤ _; omega
      have hbs := Hid.mk' HB.out.size
      generalize hdl : d.length = dl at *
      go_wp2_with fail
      refine (HW.out _).mono ?_
      rintro e _ ⟨rfl, rfl⟩
      have HDL := Hid.mk' hdl
      clear ht zt HW hdl
      generalize hEE : Utf8.encode (r : Int) = EE at *
      have HEE := Hid.mk' hEE
      clear hEE
      have e1 : ((k + m : Nat) : Int) = (k : Int) + (m : Int) := by omega
      have hE1 := Hid.mk' e1.symm
      have h0' : ((m : Int) == 0) = false := by simp; omega
      clear e1
      go_wp2_with (first
        | (with_reducible refine at_sl ?_; refine wpList_slS (.tmp 17) (.tmp 18) (.tmp 21) rfl rfl s EE k (k + m) _ HX.out (Nat.le_add_right _ _) hm1 hE1.out rfl rfl rfl ?_)
        | (with_reducible refine at_bs ?_; refine wpList_push ei27 (.tmp 22) (.tmp 16) 23 rfl rfl rfl rfl rfl rfl (.string EE) rfl rfl w.heap.size _ dl (sV d) HO.out rfl rfl (one_str EE) hd1.out hd2.out hbs.out ?_)
        | fail)
      intro v3 w3 own3 gr3 _
      have HB3 : Hid (Below w.heap.size w w3) := HB.out.grown gr3 hbs.out (fun k hk => (World.ownsRow.lt HO.out k hk).1)
      have HO3 : Hid (w3.ownsRow w.heap.size 9 1 v3 (d ++ [r]).length (sV (d ++ [r]))) := by
        show World.ownsRow _ _ _ _ _ _ _
        rw [List.length_append, HDL.out, sV_app]
        have : sV [r] = (Value.string EE).cells.toList := by rw [← HEE.out]; rfl
        rw [this]
        exact own3
      have hd3 : Hid ((d ++ [r]).length ≤ k + m) := by show _ ≤ _; rw [List.length_append, HDL.out]; simp; omega
      clear own3 gr3 HO HB HDL hd1 hd2 hbs HX hE1
      go_wp2
      go_roundw
      case rel => exact ⟨k + m, d ++ [r], hm1, hd3.out, by go_num, HO3, HB3, HV2, HR2⟩
      case measure => simp [intOf]; omega
    · have h1' : ¬ (k : Int) < (s.size : Int) := by omega
      have HRR : Hid (R = d) := by
        show _ = _
        rw [HRk.out, List.drop_eq_nil_of_le (by simp; omega), rnL_nil, List.append_nil]
      clear HRk HVk
      go_wp2
      go_ret
      exact ⟨_, rfl, by rw [HRR.out]; exact HO.out, HB.out⟩

set_option maxRecDepth 100000 in
set_option maxHeartbeats 4000000 in
theorem joined_abs (n : Nat) (EV TX : Nat → ByteArray) (a : Option Addr) (c : Nat) (w : World) (HE : Hid (∀ i, i < n → (EV i).size ≤ 4)) (HT : Hid (∀ i, i < n → TX (i + 1) = TX i ++ EV i)) (HZ : Hid (TX 0 = ⟨#[]⟩)) (HS : Hid (∀ i, i ≤ n → (TX i).size ≤ 4 * i)) (HA : Hid (Chs w a n (fun i => .string (EV i)))) (h1 : n ≤ 4194304) :
    Calls Tryd.prog 10 #[.slice a n c] w fun e w' => e = .returned (.string (TX n)) ∧ Below w.heap.size w w' := by
  go_enter Tryd.func10, Tryd.ntmps10
  go_wp2
  go_loopw [3, 4] (fun s x wr => ∃ i : Nat, i ≤ n ∧ x = .int .i64 (i : Int) ∧ s = .string (TX i) ∧ Hid (Below w.heap.size w wr)) (fun _ x _ => n - (intOf x).toNat)
  case atStart => exact ⟨0, by omega, rfl, by rw [HZ.out], Below.refl _ _⟩
  case round =>
    obtain ⟨i, hi, rfl, rfl, HB⟩ := hrel
    by_cases hin : i < n
    · have hin' : (i : Int) < (n : Int) := by omega
      obtain ⟨g, rfl, ca⟩ := HA.out _ HB.out i hin
      dsimp only at ca
      have s1 := HS.out i hi
      have s2 := HE.out i hin
      have HT2 := Hid.mk' (HT.out i hin)
      clear HS HE HT HA HZ
      have hsz : (TX i).size + (EV i).size ≤ 16777220 := by omega
      generalize hX : TX i = X at *
      generalize hY : EV i = Y at *
      clear hX hY
      go_wp2
      go_roundw
      case rel => exact ⟨i + 1, by omega, by go_num, by rw [HT2.out], HB⟩
      case measure => simp [intOf]; omega
    · obtain rfl : i = n := by omega
      have hin' : ¬ (i : Int) < (i : Int) := by omega
      go_wp2
      go_ret
      exact ⟨rfl, HB.out⟩
end Go.Proofs.YtefoipjbbfcjhaaDoor
