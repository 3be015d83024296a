import Derived.Test.YteggiecmfclcjaaDoorZg
import Derived.Deep.RegionWith
namespace Go.Proofs.YteggiecmfclcjaaDoor
open Go.RowKit
set_option linter.unusedVariables false
set_option linter.unusedSimpArgs false

set_option maxRecDepth 100000 in
set_option maxHeartbeats 2000000 in
theorem up_none (cap : Nat) (w : World) : Calls Tryd.prog 12 #[.slice none 0 cap] w fun e w' => ∃ v, e = .returned v ∧ OwnS w' w.heap.size v [] ∧ Below w.heap.size w w' := by
  have N0 := Hid.mk' (OwnS.nil w w.heap.size)
  go_enter Tryd.func12, Tryd.ntmps12
  go_wp2
  go_ret
  exact ⟨_, rfl, N0.out, Below.refl _ _⟩
theorem up_all (a : Option Addr) (L : List St) (cap : Nat) (w : World) (hl : Sts w a L) (hne : a = none → L = []) (hc : L.length ≤ cap) (hn : L.length ≤ 4398046510976) :
    Calls Tryd.prog 12 #[.slice a L.length cap] w fun e w' => ∃ v, e = .returned v ∧ OwnS w' w.heap.size v (L.take (L.length - 1)) ∧ Below w.heap.size w w' := by
  cases a with
  | some a => exact up_any a L cap w hl hc hn
  | none =>
    obtain rfl := hne rfl
    exact up_none cap w
theorem sl_hi (a : Option Addr) (n cap k : Nat) (hk : k ≤ cap) (w : World) : (Instr.slice 22 (.slice a n cap) none (some (.int .i64 (k : Int))) none).run Tryd.prog w = .ok (.slice a k cap) w := by
  obtain ⟨i, hi, hz, hs, hby⟩ := infoS
  have h1 : ¬ ((k : Int) < 0) := by omega
  cases a <;> simp [Instr.slice, run_underlying Tryd.underlying22, Instr.sliceBounds, Instr.sliceBound, asIntOf, sizeOf, typeInfo, hi, hs, h1, hk, Addr.add]
theorem stB_take (l : List St) (k : Nat) (hk : k ≤ l.length) : stB l (l.take k) = true := by
  unfold stB
  have h : (l.take k).length = k := by rw [List.length_take]; omega
  rw [h, decide_eq_true hk, decide_eq_true (cL_zero.2 rfl)]
  rfl
set_option maxRecDepth 100000 in
set_option maxHeartbeats 1500000 in
theorem under_all (a : Option Addr) (l : List St) (cap : Nat) (n : Int) (w : World) (ha : Sts w a l) (hne : a = none → l = []) (hc : l.length ≤ cap) (hl : l.length ≤ 4398046510976) (hT : K.V.Tabs w) (a0 a1 a2 : Addr) (hE : Snt w a0 a1 a2) :
    Calls Tryd.prog 4 #[.slice a l.length cap, .int .i64 n] w fun e w' => e = .returned (.bool true) ∧ Below w.heap.size w w' := by
  have HR1 := Hid.mk' (rright_l a l cap w ha (by omega))
  by_cases hR : rightL l = 0
  · obtain ⟨k, hk, hcase⟩ : ∃ k : Nat, k ≤ l.length ∧ ((n < 0 ∧ k = l.length) ∨ (¬ n < 0 ∧ (l.length : Int) < n ∧ k = l.length) ∨ n = (k : Int)) := by
      by_cases h1 : n < 0
      · exact ⟨l.length, Nat.le_refl _, .inl ⟨h1, rfl⟩⟩
      · by_cases h2 : (l.length : Int) < n
        · exact ⟨l.length, Nat.le_refl _, .inr (.inl ⟨h1, h2, rfl⟩)⟩
        · exact ⟨n.toNat, by omega, .inr (.inr (by omega))⟩
    have hkt : (l.take k).length = k := by rw [List.length_take]; omega
    obtain ⟨A, SLL, hA, hAn⟩ := sl_lo a l cap k w ha hne hc hk
    have SLH := sl_hi a l.length cap k (by omega)
    have HJ : Hid (∀ wx, Below w.heap.size w wx → Calls Tryd.prog 6 #[.slice a k cap, .slice A (l.length - k) (cap - k)] wx fun e w' => ∃ v, e = .returned (.tuple #[v, .int .i64 0]) ∧ OwnS w' wx.heap.size v l ∧ Below w.heap.size w w') := fun wx hb => by
      have h := join_any a A (l.take k) (l.drop k) k (l.length - k) cap (cap - k) wx ((ha.take k).below hb) (hA.below hb) hkt (List.length_drop ..) (fun e => by rw [hne e]; simp) hAn (by omega) (hT.below hb) a0 a1 a2 (hE.below hb)
      have hj : joinL (l.take k) (l.drop k) = l := by unfold joinL; rw [List.take_append_drop, if_pos hR]
      rw [List.take_append_drop, hR, hj] at h
      exact h.mono fun e w' ⟨v, h1, h2, h3⟩ => ⟨v, h1, h2, hb.trans (h3.mono hb.size)⟩
    have HU : Hid (∀ wx, Below w.heap.size w wx → Calls Tryd.prog 12 #[.slice a l.length cap] wx fun e w' => ∃ v, e = .returned v ∧ OwnS w' wx.heap.size v (l.take (l.length - 1)) ∧ Below wx.heap.size wx w') := fun wx hb => up_all a l cap wx (ha.below hb) hne hc hl
    have HS : Hid (∀ va vc wx, Below w.heap.size w wx → Sts wx va l → Calls Tryd.prog 8 #[.slice va l.length vc, .slice a l.length cap] wx fun e w' => e = .returned (.bool true) ∧ Below wx.heap.size wx w') := fun va vc wx hb st => by
      have h := same_any va a l l vc cap wx st (ha.below hb) (by omega) (by omega)
      rw [decide_eq_true (cL_zero.2 rfl)] at h
      exact h
    have HT1 : Hid (∀ wx, Below w.heap.size w wx → Calls Tryd.prog 13 #[.slice a l.length cap, .slice a k cap] wx fun e w' => e = .returned (.bool true) ∧ Below wx.heap.size wx w') := fun wx hb => by
      have h := starts_any a a l (l.take k) cap cap wx (ha.below hb) ((ha.take k).below hb) hc (by omega) (by omega)
      rw [stB_take l k hk, hkt] at h
      exact h
    have hut : (l.take (l.length - 1)).length = l.length - 1 := by rw [List.length_take]; omega
    have HT2 : Hid (∀ ua uc wx, Below w.heap.size w wx → Sts wx ua (l.take (l.length - 1)) → Calls Tryd.prog 13 #[.slice a l.length cap, .slice ua (l.length - 1) uc] wx fun e w' => e = .returned (.bool true) ∧ Below wx.heap.size wx w') := fun ua uc wx hb st => by
      have h := starts_any a ua l (l.take (l.length - 1)) cap uc wx (ha.below hb) st hc (by omega) (by omega)
      rw [stB_take l _ (by omega), hut] at h
      exact h
    have HO : Hid (∀ wx B v, OwnS wx B v l → ∃ va vc, v = .slice va l.length vc ∧ ∀ wy, Below wx.heap.size wx wy → Sts wy va l) := fun wx B v h => by
      obtain ⟨va, vc, e, _, st⟩ := h.slice
      exact ⟨va, vc, e, fun wy hb => st.below hb⟩
    have HP : Hid (∀ wx B v, OwnS wx B v (l.take (l.length - 1)) → ∃ va vc, v = .slice va (l.length - 1) vc ∧ ∀ wy, Below wx.heap.size wx wy → Sts wy va (l.take (l.length - 1))) := fun wx B v h => by
      obtain ⟨va, vc, e, _, st⟩ := h.slice
      rw [hut] at e
      exact ⟨va, vc, e, fun wy hb => st.below hb⟩
    rw [hR] at HR1
    clear ha hne hT hE hA hAn hkt hut hR
    generalize l.take (l.length - 1) = U at *
    generalize l.length = q at *
    generalize q - k = r at *
    generalize cap - k = rc at *
    have hkc : k ≤ cap := by omega
    have hk' : (k : Int) ≤ (q : Int) := by omega
    have hlast : (q = 0 ∧ q - 1 = 0) ∨ (¬ (q : Int) = 0 ∧ ((q - 1 : Nat) : Int) = (q : Int) - 1) := by omega
    rcases hcase with ⟨h1, rfl⟩ | ⟨h1, h2, rfl⟩ | rfl
    · go_enter Tryd.func4, Tryd.ntmps4
      go_wp2_with fail
      refine HR1.out.mono ?_
      rintro e w1 ⟨rfl, b1⟩
      have HB1 := Hid.mk' b1
      clear b1
      go_wp2_with fail
      go_region_with (go_at_call 6; refine (HJ.out _ ?_).mono ?_; (first | exact HB1.out | exact HB1.out.drew | exact below_drewN HB1.out _ | exact (below_drewN HB1.out _).drew); rintro e w2 ⟨v, rfl, own2, b2⟩; obtain ⟨va, vc, rfl, st2⟩ := HO.out _ _ _ own2; have HV2 := Hid.mk' st2; have HB2 := Hid.mk' b2; clear own2 st2 b2)
      go_wp2_with fail
      refine (HU.out _ HB2.out).mono ?_
      rintro e w3 ⟨u, rfl, own3, b3⟩
      obtain ⟨ua, uc, rfl, st3⟩ := HP.out _ _ _ own3
      have HV3 := Hid.mk' st3
      have HB3 := Hid.mk' (HB2.out.trans (b3.mono HB2.out.size))
      have HS3 := Hid.mk' (HV2.out _ b3)
      clear own3 st3 b3
      go_wp2_with fail
      refine (HS.out va vc _ HB3.out HS3.out).mono ?_
      rintro e w4 ⟨rfl, b4⟩
      have HB4 := Hid.mk' (HB3.out.trans (b4.mono HB3.out.size))
      have HS4 := Hid.mk' (HV3.out _ b4)
      clear b4
      go_wp2_with fail
      refine (HT1.out _ HB4.out).mono ?_
      rintro e w5 ⟨rfl, b5⟩
      have HB5 := Hid.mk' (HB4.out.trans (b5.mono HB4.out.size))
      have HS5 := Hid.mk' (HS4.out.below b5)
      clear b5
      go_wp2_with fail
      refine (HT2.out ua uc _ HB5.out HS5.out).mono ?_
      rintro e w6 ⟨rfl, b6⟩
      have HB6 := Hid.mk' (HB5.out.trans (b6.mono HB5.out.size))
      clear b6
      rcases hlast with ⟨z1, z2⟩ | ⟨z1, z2⟩
      · go_wp2
        go_ret
        exact ⟨by simp [z1, z2], HB6.out⟩
      · go_wp2
        go_ret
        exact ⟨by simp [z1, z2], HB6.out⟩
    · go_enter Tryd.func4, Tryd.ntmps4
      go_wp2_with fail
      refine HR1.out.mono ?_
      rintro e w1 ⟨rfl, b1⟩
      have HB1 := Hid.mk' b1
      clear b1
      go_wp2_with fail
      go_region_with (go_at_call 6; refine (HJ.out _ ?_).mono ?_; (first | exact HB1.out | exact HB1.out.drew | exact below_drewN HB1.out _ | exact (below_drewN HB1.out _).drew); rintro e w2 ⟨v, rfl, own2, b2⟩; obtain ⟨va, vc, rfl, st2⟩ := HO.out _ _ _ own2; have HV2 := Hid.mk' st2; have HB2 := Hid.mk' b2; clear own2 st2 b2)
      go_wp2_with fail
      refine (HU.out _ HB2.out).mono ?_
      rintro e w3 ⟨u, rfl, own3, b3⟩
      obtain ⟨ua, uc, rfl, st3⟩ := HP.out _ _ _ own3
      have HV3 := Hid.mk' st3
      have HB3 := Hid.mk' (HB2.out.trans (b3.mono HB2.out.size))
      have HS3 := Hid.mk' (HV2.out _ b3)
      clear own3 st3 b3
      go_wp2_with fail
      refine (HS.out va vc _ HB3.out HS3.out).mono ?_
      rintro e w4 ⟨rfl, b4⟩
      have HB4 := Hid.mk' (HB3.out.trans (b4.mono HB3.out.size))
      have HS4 := Hid.mk' (HV3.out _ b4)
      clear b4
      go_wp2_with fail
      refine (HT1.out _ HB4.out).mono ?_
      rintro e w5 ⟨rfl, b5⟩
      have HB5 := Hid.mk' (HB4.out.trans (b5.mono HB4.out.size))
      have HS5 := Hid.mk' (HS4.out.below b5)
      clear b5
      go_wp2_with fail
      refine (HT2.out ua uc _ HB5.out HS5.out).mono ?_
      rintro e w6 ⟨rfl, b6⟩
      have HB6 := Hid.mk' (HB5.out.trans (b6.mono HB5.out.size))
      clear b6
      rcases hlast with ⟨z1, z2⟩ | ⟨z1, z2⟩
      · go_wp2
        go_ret
        exact ⟨by simp [z1, z2], HB6.out⟩
      · go_wp2
        go_ret
        exact ⟨by simp [z1, z2], HB6.out⟩
    · go_enter Tryd.func4, Tryd.ntmps4
      go_wp2_with fail
      refine HR1.out.mono ?_
      rintro e w1 ⟨rfl, b1⟩
      have HB1 := Hid.mk' b1
      clear b1
      go_wp2_with fail
      go_region_with (go_at_call 6; refine (HJ.out _ ?_).mono ?_; (first | exact HB1.out | exact HB1.out.drew | exact below_drewN HB1.out _ | exact (below_drewN HB1.out _).drew); rintro e w2 ⟨v, rfl, own2, b2⟩; obtain ⟨va, vc, rfl, st2⟩ := HO.out _ _ _ own2; have HV2 := Hid.mk' st2; have HB2 := Hid.mk' b2; clear own2 st2 b2)
      go_wp2_with fail
      refine (HU.out _ HB2.out).mono ?_
      rintro e w3 ⟨u, rfl, own3, b3⟩
      obtain ⟨ua, uc, rfl, st3⟩ := HP.out _ _ _ own3
      have HV3 := Hid.mk' st3
      have HB3 := Hid.mk' (HB2.out.trans (b3.mono HB2.out.size))
      have HS3 := Hid.mk' (HV2.out _ b3)
      clear own3 st3 b3
      go_wp2_with fail
      refine (HS.out va vc _ HB3.out HS3.out).mono ?_
      rintro e w4 ⟨rfl, b4⟩
      have HB4 := Hid.mk' (HB3.out.trans (b4.mono HB3.out.size))
      have HS4 := Hid.mk' (HV3.out _ b4)
      clear b4
      go_wp2_with fail
      refine (HT1.out _ HB4.out).mono ?_
      rintro e w5 ⟨rfl, b5⟩
      have HB5 := Hid.mk' (HB4.out.trans (b5.mono HB4.out.size))
      have HS5 := Hid.mk' (HS4.out.below b5)
      clear b5
      go_wp2_with fail
      refine (HT2.out ua uc _ HB5.out HS5.out).mono ?_
      rintro e w6 ⟨rfl, b6⟩
      have HB6 := Hid.mk' (HB5.out.trans (b6.mono HB5.out.size))
      clear b6
      rcases hlast with ⟨z1, z2⟩ | ⟨z1, z2⟩
      · go_wp2
        go_ret
        exact ⟨by simp [z1, z2], HB6.out⟩
      · go_wp2
        go_ret
        exact ⟨by simp [z1, z2], HB6.out⟩
  · have HR2 : Hid (∀ wx, Below w.heap.size w wx → Calls Tryd.prog 11 #[.slice a l.length cap] wx fun e w' => e = .returned (.int .i64 (rightL l)) ∧ Below w.heap.size w w') := fun wx hb => (right_l a l cap wx (ha.below hb) (by omega) (hT.below hb) a0 a1 a2 (hE.below hb)).mono fun e w' h => ⟨h.1, hb.trans (h.2.mono hb.size)⟩
    clear ha hne hT hE
    generalize rightL l = R at *
    generalize l.length = q at *
    go_enter Tryd.func4, Tryd.ntmps4
    go_wp2_with fail
    refine HR1.out.mono ?_
    rintro e w1 ⟨rfl, b1⟩
    have H := Hid.mk' (HR2.out w1 b1)
    clear HR1 HR2
    go_wp2_with fail
    refine H.out.mono ?_
    rintro e w2 ⟨rfl, b2⟩
    go_wp2
    go_ret
    exact ⟨by simp [hR], b2⟩
end Go.Proofs.YteggiecmfclcjaaDoor
