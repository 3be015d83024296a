import Derived.Test.YteggiecmfclcjaaDoorZe
namespace Go.Proofs.YteggiecmfclcjaaDoor
open Go.RowKit
set_option linter.unusedVariables false
set_option linter.unusedSimpArgs false

/-- What Join tells. -/
def joinL (L M : List St) : List St := if rightL (L ++ M) = 0 then L ++ M else []
set_option maxRecDepth 100000 in
set_option maxHeartbeats 2000000 in
theorem join_any (a b : Option Addr) (L M : List St) (n m ca cb : Nat) (w : World) (ha : Sts w a L) (hb : Sts w b M) (hn : L.length = n) (hm : M.length = m)
    (hna : a = none → L = []) (hnb : b = none → M = []) (h : n + m ≤ 4398046510976) (hT : K.V.Tabs w) (a0 a1 a2 : Addr) (hE : Snt w a0 a1 a2) :
    Calls Tryd.prog 6 #[.slice a n ca, .slice b m cb] w fun e w' => ∃ v, e = .returned (.tuple #[v, .int .i64 (rightL (L ++ M))]) ∧ OwnS w' w.heap.size v (joinL L M) ∧ Below w.heap.size w w' := by
  obtain ⟨W0, hW0⟩ : ∃ W, W = w.alloc (.cells #[.slice a n ca, .slice b m cb] 22) := ⟨_, rfl⟩
  have bw : Below w.heap.size w W0 := by rw [hW0]; exact (Below.refl _ _).alloc (Nat.le_refl _) _
  have g := heap_alloc_new w (.cells #[.slice a n ca, .slice b m cb] 22)
  rw [← hW0] at g
  have HC := Hid.mk' (concat_any w.heap.size a b L M n m ca cb W0 _ g (ha.below bw) (hb.below bw) hn hm hna hnb h)
  have HR : Hid (∀ va vc w1, Below w.heap.size w w1 → OwnS w1 w.heap.size (.slice va (L ++ M).length vc) (L ++ M) → Calls Tryd.prog 11 #[.slice va (L ++ M).length vc] w1 fun e w' => e = .returned (.int .i64 (rightL (L ++ M))) ∧ Below w1.heap.size w1 w') := fun va vc w1 b1 ow => by
    obtain ⟨va2, vc2, e, _, st⟩ := ow.slice
    cases e
    exact right_l va (L ++ M) vc w1 st (by rw [List.length_append, hn, hm]; omega) (hT.below b1) a0 a1 a2 (hE.below b1)
  have HJ : Hid ((rightL (L ++ M) = 0 → joinL L M = L ++ M) ∧ (rightL (L ++ M) ≠ 0 → joinL L M = [])) := ⟨fun h => by unfold joinL; rw [if_pos h], fun h => by unfold joinL; rw [if_neg h]⟩
  have N0 : Hid (∀ wx, OwnS wx w.heap.size (.slice none 0 0) []) := fun wx => OwnS.nil wx w.heap.size
  have HW0 := Hid.mk' hW0
  have BW := Hid.mk' bw
  have zw : Hid (w.heap.size ≤ W0.heap.size) := bw.size
  clear ha hb hn hm hna hnb hT hE hW0 bw g
  generalize rightL (L ++ M) = R at *
  go_enter Tryd.func6, Tryd.ntmps6
  go_wp2_with fail
  rw [← HW0.out]
  refine HC.out.mono ?_
  rintro e w1 ⟨v1, rfl, own1, b1⟩
  have ow1 : OwnS w1 w.heap.size v1 (L ++ M) := by
    refine ⟨own1.1, ?_⟩
    rcases own1.2 with hn | ⟨g, cap, cur, e, hbg, rest⟩
    · exact .inl hn
    · exact .inr ⟨g, cap, cur, e, Nat.le_trans zw.out hbg, rest⟩
  have bb : Below w.heap.size w w1 := BW.out.trans (b1.mono zw.out)
  obtain ⟨va, vc, rfl, _, _⟩ := ow1.slice
  have HR2 := Hid.mk' (HR.out va vc w1 bb ow1)
  have O1 := Hid.mk' ow1
  have BB := Hid.mk' bb
  clear own1 b1 bb ow1 HC HR HW0
  generalize hl : (L ++ M).length = q at *
  go_wp2_with fail
  refine HR2.out.mono ?_
  rintro e w2 ⟨rfl, b2⟩
  have BB2 : Hid (Below w.heap.size w w2) := BB.out.trans (b2.mono BB.out.size)
  have O2 : Hid (OwnS w2 w.heap.size (.slice va q vc) (L ++ M)) := O1.out.below b2
  clear b2 HR2 O1 BB BW
  by_cases hR : R = 0
  · have HJ2 : Hid (joinL L M = L ++ M) := HJ.out.1 hR
    clear HJ
    go_wp2
    go_ret2
    exact ⟨_, by rw [hR]; rfl, by rw [HJ2.out]; exact O2.out, BB2.out⟩
  · have HJ2 : Hid (joinL L M = []) := HJ.out.2 hR
    clear HJ
    go_wp2
    go_ret2
    exact ⟨_, rfl, by rw [HJ2.out]; exact N0.out _, BB2.out⟩
end Go.Proofs.YteggiecmfclcjaaDoor
