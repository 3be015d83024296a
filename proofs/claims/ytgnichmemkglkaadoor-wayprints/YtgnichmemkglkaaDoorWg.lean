import Derived.Test.YtgnichmemkglkaaDoorWf
import Derived.Test.YtgnichmemkglkaaDoorYi
namespace Go.Proofs.YtgnichmemkglkaaDoor
open Go.RowKit
set_option linter.unusedVariables false
set_option linter.unusedSimpArgs false

set_option maxRecDepth 100000 in
set_option maxHeartbeats 1000000 in
theorem prints_all (a : Option Addr) (x : List St) (c1 : Nat) (w : World) (ha : Sts w a x) (na : a = none → x = []) (hx : x.length ≤ 4398046510976) (hT : K.V.Tabs w) (a0 a1 a2 : Addr) (hE : Snt w a0 a1 a2) (hP : PowB w.heap.size w) :
    Calls Tryd.prog 3 #[.slice a x.length c1] w fun e w' => e = .returned (.bool true) ∧ Below w.heap.size w w' := by
  have L1 := Hid.mk' (lent_any a x c1 w ha na (by omega))
  have HA := Hid.mk' (fun wx (h : Below w.heap.size w wx) => ha.below h)
  have HT := Hid.mk' (fun wx (h : Below w.heap.size w wx) => hT.below h)
  have HE := Hid.mk' (fun wx (h : Below w.heap.size w wx) => hE.below h)
  have HP : Hid (∀ wx, Below w.heap.size w wx → PowB wx.heap.size wx) := fun wx h w' h' => hP w' (h.trans (h'.mono h.size))
  have HX := Hid.mk' hx
  clear ha na hT hE hP
  go_enter Tryd.func3, Tryd.ntmps3
  go_wp2_with fail
  refine L1.out.mono ?_
  rintro e w2 ⟨g1, k1, rfl, hk1, s1, b2⟩
  have BW2 := Hid.mk' b2
  have SX : Hid (∀ wx, Below w2.heap.size w2 wx → Sts wx (some ⟨g1, 0, none⟩) (x ++ [mSt])) := fun wx h => s1.below h
  have UP : Hid (∀ wx, Below w2.heap.size w2 wx → Below w.heap.size w wx) := fun wx h => BW2.out.trans (h.mono BW2.out.size)
  have TR : Hid (∀ wx w', Below w2.heap.size w2 wx → Below wx.heap.size wx w' → Below w2.heap.size w2 w') := fun wx w' h k => h.trans (k.mono h.size)
  have lx : x.length ≤ 140737488355328 := by omega
  have CP : Hid (∀ wx, Below w2.heap.size w2 wx → Calls Tryd.prog 6 #[.slice (some ⟨g1, 0, none⟩) x.length k1] wx fun e w' => e = .returned (.tuple #[.string (strOf x), .int .i64 (rightL x)]) ∧ Below w2.heap.size w2 w') := fun wx h =>
    (print_any _ x k1 wx (SX.out wx h).front lx (HT.out wx (UP.out wx h)) a0 a1 a2 (HE.out wx (UP.out wx h)) (HP.out wx (UP.out wx h))).mono fun e w' k => ⟨k.1, TR.out _ _ h k.2⟩
  have CQ : Hid (∀ wx, Below w2.heap.size w2 wx → Calls Tryd.prog 7 #[.slice a x.length c1] wx fun e w' => e = .returned (.tuple #[.string (strOf x), .int .i64 (rightL x)]) ∧ Below w2.heap.size w2 w') := fun wx h =>
    (rprint_any _ x c1 wx (HA.out wx (UP.out wx h)) lx (HP.out wx (UP.out wx h))).mono fun e w' k => ⟨k.1, TR.out _ _ h k.2⟩
  have CR : Hid (∀ wx, Below w2.heap.size w2 wx → Calls Tryd.prog 8 #[.slice (some ⟨g1, 0, none⟩) x.length k1] wx fun e w' => e = .returned (.int .i64 (rightL x)) ∧ Below w2.heap.size w2 w') := fun wx h =>
    (right_l _ x k1 wx (SX.out wx h).front lx (HT.out wx (UP.out wx h)) a0 a1 a2 (HE.out wx (UP.out wx h))).mono fun e w' k => ⟨k.1, TR.out _ _ h k.2⟩
  have CS : Hid (∀ wx, Below w2.heap.size w2 wx → Calls Tryd.prog 9 #[.slice a x.length c1] wx fun e w' => e = .returned (.int .i64 (rightL x)) ∧ Below w2.heap.size w2 w') := fun wx h =>
    (rright_l _ x c1 wx (HA.out wx (UP.out wx h)) lx).mono fun e w' k => ⟨k.1, TR.out _ _ h k.2⟩
  have CK : Hid (∀ wx, Below w2.heap.size w2 wx → Calls Tryd.prog 10 #[.slice (some ⟨g1, 0, none⟩) x.length k1, .slice a x.length c1] wx fun e w' => e = .returned (.bool true) ∧ Below w2.heap.size w2 w') := fun wx h => (kept_any g1 a x k1 c1 wx (SX.out wx h) (HA.out wx (UP.out wx h)) hk1 HX.out).mono fun e w' k => ⟨k.1, TR.out _ _ h k.2⟩
  have B0 : Below w2.heap.size w2 w2 := Below.refl _ _
  clear L1 SX HA HT HE HP s1 b2 HX hk1 lx
  generalize strOf x = ST at *
  generalize rightL x = R at *
  generalize x.length = n at *
  go_wp2_with fail
  refine (CP.out _ B0).mono ?_
  rintro e w3 ⟨rfl, b3⟩
  go_wp2_with fail
  refine (CQ.out _ b3).mono ?_
  rintro e w4 ⟨rfl, b4⟩
  clear CP CQ
  go_wp2_with fail
  refine (CR.out _ b4).mono ?_
  rintro e w5 ⟨rfl, b5⟩
  go_wp2_with fail
  refine (CS.out _ b5).mono ?_
  rintro e w6 ⟨rfl, b6⟩
  go_wp2_with fail
  refine (CK.out _ b6).mono ?_
  rintro e w7 ⟨rfl, b7⟩
  have B7 := Hid.mk' (UP.out _ b7)
  clear b3 b4 b5 b6 b7
  go_wp2
  go_ret
  exact ⟨by simp, B7.out⟩
end Go.Proofs.YtgnichmemkglkaaDoor
