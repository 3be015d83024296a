import Derived.Test.YtiehlodegpokcaaYi
namespace Go.Proofs.Ytiehlodegpokcaa
open Go.RowKit
set_option linter.unusedVariables false
set_option linter.unusedSimpArgs false

theorem stB_nil (l : List St) : stB l [] = true := by
  unfold stB
  simp [cL]
set_option maxRecDepth 100000 in
set_option maxHeartbeats 8000000 in
theorem compares_all (a b : Option Addr) (x y : List St) (c1 c2 : Nat) (w : World) (ha : Sts w a x) (hb : Sts w b y) (na : a = none → x = []) (nb : b = none → y = []) (h1 : x.length ≤ c1) (h2 : y.length ≤ c2) (hx : x.length ≤ 4398046510976) (hy : y.length ≤ 4398046510976) :
    Calls Try.prog 3 #[.slice a x.length c1, .slice b y.length c2] w fun e w' => e = .returned (.bool true) ∧ Below w.heap.size w w' := by
  have L1 := Hid.mk' (lent_any a x c1 w ha na hx)
  have L2 := Hid.mk' (fun wx (h : Below w.heap.size w wx) => lent_any b y c2 wx (hb.below h) nb hy)
  have HA := Hid.mk' (fun wx (h : Below w.heap.size w wx) => ha.below h)
  have HB := Hid.mk' (fun wx (h : Below w.heap.size w wx) => hb.below h)
  have HX := Hid.mk' hx
  have HY := Hid.mk' hy
  have H1 := Hid.mk' h1
  have H2 := Hid.mk' h2
  have NA := Hid.mk' na
  clear ha hb na nb
  go_enter Try.func3, Try.ntmps3
  go_wp2_with fail
  refine L1.out.mono ?_
  rintro e w1 ⟨g1, k1, rfl, hk1, s1, b1⟩
  have S1 := Hid.mk' s1
  have BW1 := Hid.mk' b1
  clear L1 s1 b1
  go_wp2_with fail
  refine (L2.out w1 BW1.out).mono ?_
  rintro e w2 ⟨g2, k2, rfl, hk2, s2, b2⟩
  have BW2 : Hid (Below w.heap.size w w2) := BW1.out.trans (b2.mono BW1.out.size)
  have SX : Hid (∀ wx, Below w2.heap.size w2 wx → Sts wx (some ⟨g1, 0, none⟩) (x ++ [mSt])) := fun wx h => (S1.out.below b2).below h
  have SY : Hid (∀ wx, Below w2.heap.size w2 wx → Sts wx (some ⟨g2, 0, none⟩) (y ++ [mSt])) := fun wx h => s2.below h
  have SA : Hid (∀ wx, Below w2.heap.size w2 wx → Sts wx a x) := fun wx h => (HA.out w2 BW2.out).below h
  have SB : Hid (∀ wx, Below w2.heap.size w2 wx → Sts wx b y) := fun wx h => (HB.out w2 BW2.out).below h
  have TR : Hid (∀ wx w', Below w2.heap.size w2 wx → Below wx.heap.size wx w' → Below w2.heap.size w2 w') := fun wx w' h k => h.trans (k.mono h.size)
  have lx : x.length ≤ 140737488355328 := by omega
  have ly : y.length ≤ 140737488355328 := by omega
  have CX : Hid (∀ wx, Below w2.heap.size w2 wx → Calls Try.prog 6 #[.slice (some ⟨g1, 0, none⟩) x.length k1, .slice (some ⟨g2, 0, none⟩) y.length k2] wx fun e w' => e = .returned (.int .i64 (cL x y)) ∧ Below w2.heap.size w2 w') := fun wx h => (compare_any _ _ x y k1 k2 wx (SX.out wx h).front (SY.out wx h).front lx ly).mono fun e w' k => ⟨k.1, TR.out wx w' h k.2⟩
  have CR : Hid (∀ wx, Below w2.heap.size w2 wx → Calls Try.prog 7 #[.slice a x.length c1, .slice b y.length c2] wx fun e w' => e = .returned (.int .i64 (cL x y)) ∧ Below w2.heap.size w2 w') := fun wx h => (rcompare_any _ _ x y c1 c2 wx (SA.out wx h) (SB.out wx h) lx ly).mono fun e w' k => ⟨k.1, TR.out wx w' h k.2⟩
  have CS : Hid (∀ wx, Below w2.heap.size w2 wx → Calls Try.prog 8 #[.slice (some ⟨g1, 0, none⟩) x.length k1, .slice (some ⟨g2, 0, none⟩) y.length k2] wx fun e w' => e = .returned (.bool (stB x y)) ∧ Below w2.heap.size w2 w') := fun wx h => (starts_any _ _ x y k1 k2 wx (SX.out wx h).front (SY.out wx h).front (by omega) lx ly).mono fun e w' k => ⟨k.1, TR.out wx w' h k.2⟩
  have CT : Hid (∀ wx, Below w2.heap.size w2 wx → Calls Try.prog 9 #[.slice a x.length c1, .slice b y.length c2] wx fun e w' => e = .returned (.bool (stB x y)) ∧ Below w2.heap.size w2 w') := fun wx h => (rstarts_any _ _ x y c1 c2 wx (SA.out wx h) (SB.out wx h) H1.out lx ly).mono fun e w' k => ⟨k.1, TR.out wx w' h k.2⟩
  have CU : Hid (∀ wx, Below w2.heap.size w2 wx → Calls Try.prog 11 #[.slice (some ⟨g1, 0, none⟩) x.length k1] wx fun e w' => ∃ v, e = .returned v ∧ OwnS w' wx.heap.size v (x.take (x.length - 1)) ∧ Below wx.heap.size wx w' ∧ Below w2.heap.size w2 w') := fun wx h => (up_any _ x k1 wx (SX.out wx h).front (by omega) hx).mono fun e w' ⟨v, k1, k2, k3⟩ => ⟨v, k1, k2, k3, TR.out wx w' h k3⟩
  have CV : Hid (∀ wx, Below w2.heap.size w2 wx → Calls Try.prog 12 #[.slice a x.length c1] wx fun e w' => ∃ v, e = .returned v ∧ OwnS w' wx.heap.size v (x.take (x.length - 1)) ∧ Below wx.heap.size wx w' ∧ Below w2.heap.size w2 w') := fun wx h => (rup_any a x c1 wx (SA.out wx h) NA.out H1.out hx).mono fun e w' ⟨v, k1, k2, k3⟩ => ⟨v, k1, k2, k3, TR.out wx w' h k3⟩
  have CK : Hid (∀ wx, Below w2.heap.size w2 wx → Calls Try.prog 13 #[.slice (some ⟨g1, 0, none⟩) x.length k1, .slice a x.length c1] wx fun e w' => e = .returned (.bool true) ∧ Below w2.heap.size w2 w') := fun wx h => (kept_any g1 a x k1 c1 wx (SX.out wx h) (SA.out wx h) hk1 hx).mono fun e w' k => ⟨k.1, TR.out wx w' h k.2⟩
  have CL : Hid (∀ wx, Below w2.heap.size w2 wx → Calls Try.prog 13 #[.slice (some ⟨g2, 0, none⟩) y.length k2, .slice b y.length c2] wx fun e w' => e = .returned (.bool true) ∧ Below w2.heap.size w2 w') := fun wx h => (kept_any g2 b y k2 c2 wx (SY.out wx h) (SB.out wx h) hk2 hy).mono fun e w' k => ⟨k.1, TR.out wx w' h k.2⟩
  have CN : Hid (∀ wx, Below w2.heap.size w2 wx → Calls Try.prog 8 #[.slice (some ⟨g1, 0, none⟩) x.length k1, .slice none 0 0] wx fun e w' => e = .returned (.bool true) ∧ Below w2.heap.size w2 w') := fun wx h => (starts_any _ none x [] k1 0 wx (SX.out wx h).front (.inl rfl) (by omega) lx (by simp)).mono fun e w' k => ⟨by rw [k.1, stB_nil], TR.out wx w' h k.2⟩
  have CZ : Hid (∀ wx : World, Calls Try.prog 6 #[.slice none 0 0, .slice (some ⟨wx.heap.size, 0, none⟩) 1 1] (wx.alloc (.cells zSt.c 28)) fun e w' => e = .returned (.int .i64 (-1)) ∧ Below wx.heap.size wx w') := fun wx => (compare_any none _ [] [zSt] 0 1 _ (.inl rfl) (sts_lit wx zSt) (by simp) (by simp)).mono fun e w' k => ⟨k.1, ((Below.refl _ _).alloc (Nat.le_refl _) _).trans (k.2.mono (by simp))⟩
  have HLX : Hid ((x.take (x.length - 1)).length ≤ 140737488355328) := by show _ ≤ _; rw [List.length_take]; omega
  have B0 : Below w2.heap.size w2 w2 := Below.refl _ _
  clear L2 S1 BW1 SX SY SA SB HA HB s2 b2
  generalize x.take (x.length - 1) = U at *
  generalize cL x y = X at *
  generalize stB x y = B at *
  generalize x.length = n at *
  generalize y.length = q at *
  go_wp2_with fail
  refine (CX.out _ B0).mono ?_
  rintro e w3 ⟨rfl, b3⟩
  go_wp2_with fail
  refine (CR.out _ b3).mono ?_
  rintro e w4 ⟨rfl, b4⟩
  go_wp2_with fail
  refine (CS.out _ b4).mono ?_
  rintro e w5 ⟨rfl, b5⟩
  go_wp2_with fail
  refine (CT.out _ b5).mono ?_
  rintro e w6 ⟨rfl, b6⟩
  clear CX CR CS CT b3 b4 b5
  go_wp2_with fail
  refine (CU.out _ b6).mono ?_
  rintro e w7 ⟨v7, rfl, o7, _, b7⟩
  have O7 := Hid.mk' o7
  obtain ⟨a7, d7, rfl, _, _⟩ := o7.slice
  clear o7
  go_wp2_with fail
  refine (CV.out _ b7).mono ?_
  rintro e w8 ⟨v8, rfl, o8, k8, b8⟩
  obtain ⟨a8, d8, rfl, _, st8⟩ := o8.slice
  obtain ⟨a7', d7', e7, _, st7⟩ := (O7.out.below k8).slice
  simp only [Value.slice.injEq] at e7
  obtain ⟨rfl, _, rfl⟩ := e7
  have CSm := Hid.mk' (same_any a7 a8 U U d7 d8 w8 st7 st8 HLX.out HLX.out)
  rw [decide_eq_true (cL_zero.2 rfl)] at CSm
  clear o8 k8 st7 st8 O7 CU CV
  generalize U.length = r at *
  go_wp2_with fail
  refine CSm.out.mono ?_
  rintro e w9 ⟨rfl, k9⟩
  have b9 := TR.out _ _ b8 k9
  clear CSm k9
  go_wp2_with fail
  refine (CK.out _ b9).mono ?_
  rintro e w10 ⟨rfl, b10⟩
  go_wp2_with fail
  refine (CL.out _ b10).mono ?_
  rintro e w11 ⟨rfl, b11⟩
  go_wp2_with fail
  refine (CN.out _ b11).mono ?_
  rintro e w12 ⟨rfl, b12⟩
  clear CK CL CN b9 b10 b11
  go_wp2_with (first
    | (refine wpList_bs1G rfl (.tmp 49) rfl zSt.c rfl rfl ?_)
    | fail)
  refine (CZ.out w12).mono ?_
  rintro e w13 ⟨rfl, k13⟩
  have b13 := TR.out _ _ b12 k13
  have BW13 : Hid (Below w.heap.size w w13) := BW2.out.trans (b13.mono BW2.out.size)
  clear CZ k13 b12 b13
  go_wp2
  go_ret
  exact ⟨by simp, BW13.out⟩
end Go.Proofs.Ytiehlodegpokcaa
