import Derived.Test.YteggiecmfclcjaaDoorZd
namespace Go.Proofs.YteggiecmfclcjaaDoor
open Go.RowKit
set_option linter.unusedVariables false
set_option linter.unusedSimpArgs false

set_option maxRecDepth 100000 in
set_option maxHeartbeats 2000000 in
theorem concat_any (g : Nat) (a b : Option Addr) (L M : List St) (n m ca cb : Nat) (w : World) (t : TypeId) (hg : w.heap[g]? = some (.cells #[.slice a n ca, .slice b m cb] t (0, 0))) (ha : Sts w a L) (hb : Sts w b M) (hn : L.length = n) (hm : M.length = m)
    (hna : a = none → L = []) (hnb : b = none → M = []) (h : n + m ≤ 4398046510976) :
    Calls Tryd.prog 14 #[.slice (some ⟨g, 0, none⟩) 2 2] w fun e w' => ∃ v, e = .returned v ∧ OwnS w' w.heap.size v (L ++ M) ∧ Below w.heap.size w w' := by
  have c0 : w.cell? ⟨g, 0, none⟩ = some (.slice a n ca) := (cell_of_row _ _ 0 _ _ _ hg).trans rfl
  have c1 : w.cell? ⟨g, 1, none⟩ = some (.slice b m cb) := (cell_of_row _ _ 1 _ _ _ hg).trans rfl
  have HC : Hid (∀ wx, Below w.heap.size w wx → wx.cell? ⟨g, 0, none⟩ = some (.slice a n ca) ∧ wx.cell? ⟨g, 1, none⟩ = some (.slice b m cb)) := fun wx hb => ⟨(hb.cell (block_lt_of_cell c0)).trans c0, (hb.cell (block_lt_of_cell c1)).trans c1⟩
  have HG := Hid.mk' (grow_any (n + m) w h)
  have HA := Hid.mk' (fun wx (h : Below w.heap.size w wx) => ha.below h)
  have HB := Hid.mk' (fun wx (h : Below w.heap.size w wx) => hb.below h)
  have HN := Hid.mk' hn
  have HM := Hid.mk' hm
  have HNA := Hid.mk' hna
  have HNB := Hid.mk' hnb
  clear hg ha hb hn hm hna hnb
  have e1 : ¬ (n : Int) < 0 := by omega
  have e2 : ¬ ((n : Int) + (m : Int)) < 0 := by omega
  go_enter Tryd.func14, Tryd.ntmps14
  go_wp2
  refine wp_loop_rounds 3 ?_
  rw [rounds_succ]
  go_wp2
  rw [rounds_succ]
  go_wp2
  rw [rounds_succ]
  go_wp2_with fail
  refine HG.out.mono ?_
  rintro e w1 ⟨v1, rfl, own1, b1⟩
  obtain ⟨va, vc, rfl, _, _⟩ := own1.slice
  simp only [List.length_nil] at *
  obtain ⟨d0, d1⟩ := HC.out w1 b1
  have A1 := Hid.mk' (HA.out w1 b1)
  have O1 := Hid.mk' own1
  have Z1 : Hid (w.heap.size ≤ w1.heap.size) := b1.size
  have S1 : Hid (([] : List St).length + L.length ≤ 4398046510976 + 1) := by show _ ≤ _; rw [HN.out]; simp; omega
  have BW1 := Hid.mk' b1
  clear own1 b1 HG c0 c1
  go_wp2
  refine wp_loop_rounds 3 ?_
  rw [rounds_succ]
  go_wp2_with (first | (at_builtin; refine wpList_appS rfl (.tmp 31) (.tmp 32) rfl w.heap.size (.slice va 0 vc) [] rfl O1.out a n ca L rfl HN.out A1.out HNA.out S1.out Z1.out ?_) | fail)
  intro v2 w2 own2 gr2
  have own2' : OwnS w2 w.heap.size v2 L := by simpa using own2
  have b2 : Below w.heap.size w w2 := BW1.out.grown gr2 Z1.out (fun k hk => (World.ownsRow.lt O1.out k hk).1)
  obtain ⟨va2, vc2, rfl, _, _⟩ := own2'.slice
  have O2 : Hid (OwnS w2 w.heap.size (.slice va2 L.length vc2) L) := own2'
  rw [HN.out] at O2 ⊢
  obtain ⟨f0, f1⟩ := HC.out w2 b2
  have B2 := Hid.mk' (HB.out w2 b2)
  have Z2 : Hid (w.heap.size ≤ w2.heap.size) := b2.size
  have S2 : Hid (L.length + M.length ≤ 4398046510976 + 1) := by show _ ≤ _; rw [HN.out, HM.out]; omega
  have BW2 := Hid.mk' b2
  clear own2 own2' gr2 b2 d0 d1 A1 O1 Z1 S1 BW1
  go_wp2
  rw [rounds_succ]
  go_wp2_with (first | (at_builtin; refine wpList_appS rfl (.tmp 31) (.tmp 32) rfl w.heap.size (.slice va2 n vc2) L rfl O2.out b m cb M rfl HM.out B2.out HNB.out S2.out Z2.out ?_) | fail)
  intro v3 w3 own3 gr3
  have b3 : Below w.heap.size w w3 := BW2.out.grown gr3 Z2.out (fun k hk => (World.ownsRow.lt O2.out k hk).1)
  have O3 := Hid.mk' own3
  obtain ⟨va3, vc3, rfl, _, _⟩ := own3.slice
  have BW3 := Hid.mk' b3
  clear own3 gr3 b3 f0 f1 B2 O2 Z2 S2 BW2 HA HB HC
  go_wp2
  rw [rounds_succ]
  go_wp2
  go_ret
  exact ⟨_, rfl, O3.out, BW3.out⟩
end Go.Proofs.YteggiecmfclcjaaDoor
