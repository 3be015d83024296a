import Derived.Test.YteggiecmfclcjaaDoorZi
import Derived.Test.YteggiecmfclcjaaDoorYi
namespace Go.Proofs.YteggiecmfclcjaaDoor
open Go.RowKit
set_option linter.unusedVariables false
set_option linter.unusedSimpArgs false

set_option maxRecDepth 100000 in
set_option maxHeartbeats 2000000 in
theorem joins_all (a b : Option Addr) (x y : List St) (c1 c2 : Nat) (w : World) (ha : Sts w a x) (hb : Sts w b y) (na : a = none → x = []) (nb : b = none → y = []) (hx : x.length + y.length ≤ 4398046510976) (hT : K.V.Tabs w) (a0 a1 a2 : Addr) (hE : Snt w a0 a1 a2) :
    Calls Tryd.prog 3 #[.slice a x.length c1, .slice b y.length c2] w fun e w' => e = .returned (.bool true) ∧ Below w.heap.size w w' := by
  have L1 := Hid.mk' (lent_any a x c1 w ha na (by omega))
  have L2 := Hid.mk' (fun wx (h : Below w.heap.size w wx) => lent_any b y c2 wx (hb.below h) nb (by omega))
  have HA := Hid.mk' (fun wx (h : Below w.heap.size w wx) => ha.below h)
  have HB := Hid.mk' (fun wx (h : Below w.heap.size w wx) => hb.below h)
  have HT := Hid.mk' (fun wx (h : Below w.heap.size w wx) => hT.below h)
  have HE := Hid.mk' (fun wx (h : Below w.heap.size w wx) => hE.below h)
  have HX := Hid.mk' hx
  have NA := Hid.mk' na
  have NB := Hid.mk' nb
  clear ha hb na nb hT hE
  go_enter Tryd.func3, Tryd.ntmps3
  go_wp2_with fail
  refine L1.out.mono ?_
  rintro e w1 ⟨g1, k1, rfl, hk1, s1, b1⟩
  have S1 := Hid.mk' s1
  have BW1 := Hid.mk' b1
  clear L1 s1 b1
  go_wp2_with fail
  refine (L2.out w1 BW1.out).mono ?_
  rintro e w2 ⟨g2, k2, rfl, hk2, s2, b2⟩
  have BW2 : Hid (Below w.heap.size w w2) := BW1.out.trans (b2.mono BW1.out.size)
  have SX : Hid (∀ wx, Below w2.heap.size w2 wx → Sts wx (some ⟨g1, 0, none⟩) (x ++ [mSt])) := fun wx h => (S1.out.below b2).below h
  have SY : Hid (∀ wx, Below w2.heap.size w2 wx → Sts wx (some ⟨g2, 0, none⟩) (y ++ [mSt])) := fun wx h => s2.below h
  have UP : Hid (∀ wx, Below w2.heap.size w2 wx → Below w.heap.size w wx) := fun wx h => BW2.out.trans (h.mono BW2.out.size)
  have TR : Hid (∀ wx w', Below w2.heap.size w2 wx → Below wx.heap.size wx w' → Below w2.heap.size w2 w') := fun wx w' h k => h.trans (k.mono h.size)
  have CJ : Hid (∀ wx, Below w2.heap.size w2 wx → Calls Tryd.prog 6 #[.slice (some ⟨g1, 0, none⟩) x.length k1, .slice (some ⟨g2, 0, none⟩) y.length k2] wx fun e w' => ∃ v, e = .returned (.tuple #[v, .int .i64 (rightL (x ++ y))]) ∧ OwnS w' wx.heap.size v (joinL x y) ∧ Below wx.heap.size wx w') := fun wx h =>
    join_any _ _ x y x.length y.length k1 k2 wx (SX.out wx h).front (SY.out wx h).front rfl rfl (fun h => by cases h) (fun h => by cases h) HX.out (HT.out wx (UP.out wx h)) a0 a1 a2 (HE.out wx (UP.out wx h))
  have CR : Hid (∀ wx, Below w2.heap.size w2 wx → Calls Tryd.prog 7 #[.slice a x.length c1, .slice b y.length c2] wx fun e w' => ∃ v, e = .returned (.tuple #[v, .int .i64 (rightL (x ++ y))]) ∧ OwnS w' wx.heap.size v (joinL x y) ∧ Below wx.heap.size wx w') := fun wx h =>
    rjoin_any a b x y x.length y.length c1 c2 wx (HA.out wx (UP.out wx h)) (HB.out wx (UP.out wx h)) rfl rfl NA.out NB.out HX.out
  have CK : Hid (∀ wx, Below w2.heap.size w2 wx → Calls Tryd.prog 9 #[.slice (some ⟨g1, 0, none⟩) x.length k1, .slice a x.length c1] wx fun e w' => e = .returned (.bool true) ∧ Below w2.heap.size w2 w') := fun wx h => (kept_any g1 a x k1 c1 wx (SX.out wx h) (HA.out wx (UP.out wx h)) hk1 (by have := HX.out; omega)).mono fun e w' k => ⟨k.1, TR.out _ _ h k.2⟩
  have CL : Hid (∀ wx, Below w2.heap.size w2 wx → Calls Tryd.prog 9 #[.slice (some ⟨g2, 0, none⟩) y.length k2, .slice b y.length c2] wx fun e w' => e = .returned (.bool true) ∧ Below w2.heap.size w2 w') := fun wx h => (kept_any g2 b y k2 c2 wx (SY.out wx h) (HB.out wx (UP.out wx h)) hk2 (by have := HX.out; omega)).mono fun e w' k => ⟨k.1, TR.out _ _ h k.2⟩
  have HLJ : Hid ((joinL x y).length ≤ 140737488355328) := by
    show _ ≤ _
    unfold joinL
    split
    · rw [List.length_append]; have := HX.out; omega
    · simp
  have B0 := Hid.mk' (Below.refl w2.heap.size w2)
  clear L2 S1 BW1 SX SY HA HB HT HE s2 b2 NA NB HX hk1 hk2
  generalize joinL x y = U at *
  generalize rightL (x ++ y) = R at *
  generalize x.length = n at *
  generalize y.length = q at *
  go_wp2_with fail
  refine (CJ.out _ B0.out).mono ?_
  rintro e w3 ⟨v3, rfl, o3, b3⟩
  have O3 := Hid.mk' o3
  have B3 := Hid.mk' (TR.out _ _ B0.out b3)
  obtain ⟨a3, d3, rfl, _, _⟩ := o3.slice
  clear o3 b3 CJ
  go_wp2_with fail
  refine (CR.out _ B3.out).mono ?_
  rintro e w4 ⟨v4, rfl, o4, b4⟩
  have B4 := Hid.mk' (TR.out _ _ B3.out b4)
  obtain ⟨a4, d4, rfl, _, st4⟩ := o4.slice
  obtain ⟨a3', d3', e3, _, st3⟩ := (O3.out.below b4).slice
  simp only [Value.slice.injEq] at e3
  obtain ⟨rfl, _, rfl⟩ := e3
  have CSm := Hid.mk' (same_any a3 a4 U U d3 d4 w4 st3 st4 HLJ.out HLJ.out)
  rw [decide_eq_true (cL_zero.2 rfl)] at CSm
  clear o4 b4 st3 st4 O3 CR
  generalize U.length = r at *
  go_wp2_with fail
  refine CSm.out.mono ?_
  rintro e w5 ⟨rfl, b5⟩
  have B5 := Hid.mk' (TR.out _ _ B4.out b5)
  clear CSm b5
  go_wp2_with fail
  refine (CK.out _ B5.out).mono ?_
  rintro e w6 ⟨rfl, b6⟩
  go_wp2_with fail
  refine (CL.out _ b6).mono ?_
  rintro e w7 ⟨rfl, b7⟩
  have B7 := Hid.mk' (UP.out _ b7)
  clear b6 b7
  go_wp2
  go_ret
  exact ⟨rfl, B7.out⟩
end Go.Proofs.YteggiecmfclcjaaDoor
