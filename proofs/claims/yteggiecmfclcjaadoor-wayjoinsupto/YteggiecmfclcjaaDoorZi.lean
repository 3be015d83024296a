import Derived.Test.YteggiecmfclcjaaDoorZf
import Derived.Deep.RegionWith
namespace Go.Proofs.YteggiecmfclcjaaDoor
open Go.RowKit
set_option linter.unusedVariables false
set_option linter.unusedSimpArgs false

set_option maxRecDepth 100000 in
set_option maxHeartbeats 2000000 in
theorem rjoin_any (a b : Option Addr) (L M : List St) (n m ca cb : Nat) (w : World) (ha : Sts w a L) (hb : Sts w b M) (hn : L.length = n) (hm : M.length = m)
    (hna : a = none → L = []) (hnb : b = none → M = []) (h : n + m ≤ 4398046510976) :
    Calls Tryd.prog 7 #[.slice a n ca, .slice b m cb] w fun e w' => ∃ v, e = .returned (.tuple #[v, .int .i64 (rightL (L ++ M))]) ∧ OwnS w' w.heap.size v (joinL L M) ∧ Below w.heap.size w w' := by
  have HB := Hid.mk' (fun wx (h : Below w.heap.size w wx) => hb.below h)
  have HA := Hid.mk' ha
  have HN := Hid.mk' hn
  have HM := Hid.mk' hm
  have HNA := Hid.mk' hna
  have HNB := Hid.mk' hnb
  have HR : Hid (∀ va vc w1, OwnS w1 w.heap.size (.slice va (L ++ M).length vc) (L ++ M) → Calls Tryd.prog 10 #[.slice va (L ++ M).length vc] w1 fun e w' => e = .returned (.int .i64 (rightL (L ++ M))) ∧ Below w1.heap.size w1 w') := fun va vc w1 ow => by
    obtain ⟨va2, vc2, e, _, st⟩ := ow.slice
    cases e
    exact rright_l va (L ++ M) vc w1 st (by rw [List.length_append, hn, hm]; omega)
  have HJ : Hid ((rightL (L ++ M) = 0 → joinL L M = L ++ M) ∧ (rightL (L ++ M) ≠ 0 → joinL L M = [])) := ⟨fun h => by unfold joinL; rw [if_pos h], fun h => by unfold joinL; rw [if_neg h]⟩
  have N0 : Hid (∀ wx, OwnS wx w.heap.size (.slice none 0 0) []) := fun wx => OwnS.nil wx w.heap.size
  have N1 := Hid.mk' (OwnS.nil w w.heap.size)
  have S1 : Hid (([] : List St).length + L.length ≤ 4398046510976 + 1) := by show _ ≤ _; rw [hn]; simp; omega
  have S2 : Hid (L.length + M.length ≤ 4398046510976 + 1) := by show _ ≤ _; rw [hn, hm]; omega
  clear ha hb hn hm hna hnb
  generalize rightL (L ++ M) = R at *
  go_enter Tryd.func7, Tryd.ntmps7
  go_wp2_with (first | (at_builtin; refine wpList_appS rfl (.tmp 8) (.tmp 9) rfl w.heap.size (.slice none 0 0) [] rfl N1.out a n ca L rfl HN.out HA.out HNA.out S1.out (Nat.le_refl _) ?_) | fail)
  intro v1 w1 own1 gr1
  have own1' : OwnS w1 w.heap.size v1 L := by simpa using own1
  have b1 : Below w.heap.size w w1 := (Below.refl _ _).grown gr1 (Nat.le_refl _) (fun k hk => by cases hk)
  obtain ⟨va, vc, rfl, _, _⟩ := own1'.slice
  have O1 : Hid (OwnS w1 w.heap.size (.slice va L.length vc) L) := own1'
  rw [HN.out] at O1 ⊢
  have B1 := Hid.mk' (HB.out w1 b1)
  have Z1 : Hid (w.heap.size ≤ w1.heap.size) := b1.size
  have BW1 := Hid.mk' b1
  clear own1 own1' gr1 b1 HA N1 S1
  go_wp2_with (first | (at_builtin; refine wpList_appS rfl (.tmp 11) (.tmp 12) rfl w.heap.size (.slice va n vc) L rfl O1.out b m cb M rfl HM.out B1.out HNB.out S2.out Z1.out ?_) | fail)
  intro v2 w2 own2 gr2
  have b2 : Below w.heap.size w w2 := BW1.out.grown gr2 Z1.out (fun k hk => (World.ownsRow.lt O1.out k hk).1)
  obtain ⟨va2, vc2, rfl, _, _⟩ := own2.slice
  have HR2 := Hid.mk' (HR.out va2 vc2 w2 own2)
  have O2 := Hid.mk' own2
  have BW2 := Hid.mk' b2
  clear own2 gr2 b2 O1 B1 BW1 Z1 HR HB
  generalize (L ++ M).length = q at *
  go_wp2_with fail
  refine HR2.out.mono ?_
  rintro e w3 ⟨rfl, b3⟩
  have BW3 : Hid (Below w.heap.size w w3) := BW2.out.trans (b3.mono BW2.out.size)
  have O3 : Hid (OwnS w3 w.heap.size (.slice va2 q vc2) (L ++ M)) := O2.out.below b3
  clear b3 HR2 O2 BW2
  by_cases hR : R = 0
  · have HJ2 : Hid (joinL L M = L ++ M) := HJ.out.1 hR
    clear HJ
    go_wp2
    go_ret2
    exact ⟨_, by rw [hR]; rfl, by rw [HJ2.out]; exact O3.out, BW3.out⟩
  · have HJ2 : Hid (joinL L M = []) := HJ.out.2 hR
    clear HJ
    go_wp2
    go_ret2
    exact ⟨_, rfl, by rw [HJ2.out]; exact N0.out _, BW3.out⟩
end Go.Proofs.YteggiecmfclcjaaDoor
