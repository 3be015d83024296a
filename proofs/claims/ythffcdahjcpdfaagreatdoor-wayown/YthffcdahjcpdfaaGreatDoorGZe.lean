import Derived.Test.YthffcdahjcpdfaaGreatDoorGPo
import Derived.Shelf.LaysM
import Derived.Ground.NamesProg
import Derived.Shelf.Strconv.AppendIntPublic10
import Derived.Shelf.Strconv.Itoa3
import Derived.Test.YthffcdahjcpdfaaGreatDoorRows
namespace Go.Proofs.YthffcdahjcpdfaaGreatDoor
open Go.RowKit
set_option linter.unusedVariables false
set_option linter.unusedSimpArgs false

set_option maxRecDepth 100000 in
set_option maxHeartbeats 2000000 in
theorem concat_any (g : Nat) (a b : Option Addr) (L M : List St) (n m ca cb : Nat) (w : World) (t : TypeId) (hg : w.heap[g]? = some (.cells #[.slice a n ca, .slice b m cb] t (0, 0))) (ha : Sts w a L) (hb : Sts w b M) (hn : L.length = n) (hm : M.length = m)
    (hna : a = none → L = []) (hnb : b = none → M = []) (h : n + m ≤ 4398046510976) :
    Calls Tryz.prog 14 #[.slice (some ⟨g, 0, none⟩) 2 2] w fun e w' => ∃ v, e = .returned v ∧ OwnS w' w.heap.size v (L ++ M) ∧ Below w.heap.size w w' := by
  have c0 : w.cell? ⟨g, 0, none⟩ = some (.slice a n ca) := (cell_of_row _ _ 0 _ _ _ hg).trans rfl
  have c1 : w.cell? ⟨g, 1, none⟩ = some (.slice b m cb) := (cell_of_row _ _ 1 _ _ _ hg).trans rfl
  have HC : Hid (∀ wx, Below w.heap.size w wx → wx.cell? ⟨g, 0, none⟩ = some (.slice a n ca) ∧ wx.cell? ⟨g, 1, none⟩ = some (.slice b m cb)) := fun wx hb => ⟨(hb.cell (block_lt_of_cell c0)).trans c0, (hb.cell (block_lt_of_cell c1)).trans c1⟩
  have HG := Hid.mk' (grow_any (n + m) w h)
  have HA := Hid.mk' (fun wx (h : Below w.heap.size w wx) => ha.below h)
  have HB := Hid.mk' (fun wx (h : Below w.heap.size w wx) => hb.below h)
  have HN := Hid.mk' hn
  have HM := Hid.mk' hm
  have HNA := Hid.mk' hna
  have HNB := Hid.mk' hnb
  clear hg ha hb hn hm hna hnb
  have e1 : ¬ (n : Int) < 0 := by omega
  have e2 : ¬ ((n : Int) + (m : Int)) < 0 := by omega
  go_enter Tryz.func14, Tryz.ntmps14
  go_wp2
  refine wp_loop_rounds 3 ?_
  rw [rounds_succ]
  go_wp2
  rw [rounds_succ]
  go_wp2
  rw [rounds_succ]
  go_wp2_with fail
  refine HG.out.mono ?_
  rintro e w1 ⟨v1, rfl, own1, b1⟩
  obtain ⟨va, vc, rfl, _, _⟩ := own1.slice
  simp only [List.length_nil] at *
  obtain ⟨d0, d1⟩ := HC.out w1 b1
  have A1 := Hid.mk' (HA.out w1 b1)
  have O1 := Hid.mk' own1
  have Z1 : Hid (w.heap.size ≤ w1.heap.size) := b1.size
  have S1 : Hid (([] : List St).length + L.length ≤ 4398046510976 + 1) := by show _ ≤ _; rw [HN.out]; simp; omega
  have BW1 := Hid.mk' b1
  clear own1 b1 HG c0 c1
  go_wp2
  refine wp_loop_rounds 3 ?_
  rw [rounds_succ]
  go_wp2_with (first | (at_builtin; refine wpList_appS rfl (.tmp 31) (.tmp 32) rfl w.heap.size (.slice va 0 vc) [] rfl O1.out a n ca L rfl HN.out A1.out HNA.out S1.out Z1.out ?_) | fail)
  intro v2 w2 own2 gr2
  have own2' : OwnS w2 w.heap.size v2 L := by simpa using own2
  have b2 : Below w.heap.size w w2 := BW1.out.grown gr2 Z1.out (fun k hk => (World.ownsRow.lt O1.out k hk).1)
  obtain ⟨va2, vc2, rfl, _, _⟩ := own2'.slice
  have O2 : Hid (OwnS w2 w.heap.size (.slice va2 L.length vc2) L) := own2'
  rw [HN.out] at O2 ⊢
  obtain ⟨f0, f1⟩ := HC.out w2 b2
  have B2 := Hid.mk' (HB.out w2 b2)
  have Z2 : Hid (w.heap.size ≤ w2.heap.size) := b2.size
  have S2 : Hid (L.length + M.length ≤ 4398046510976 + 1) := by show _ ≤ _; rw [HN.out, HM.out]; omega
  have BW2 := Hid.mk' b2
  clear own2 own2' gr2 b2 d0 d1 A1 O1 Z1 S1 BW1
  go_wp2
  rw [rounds_succ]
  go_wp2_with (first | (at_builtin; refine wpList_appS rfl (.tmp 31) (.tmp 32) rfl w.heap.size (.slice va2 n vc2) L rfl O2.out b m cb M rfl HM.out B2.out HNB.out S2.out Z2.out ?_) | fail)
  intro v3 w3 own3 gr3
  have b3 : Below w.heap.size w w3 := BW2.out.grown gr3 Z2.out (fun k hk => (World.ownsRow.lt O2.out k hk).1)
  have O3 := Hid.mk' own3
  obtain ⟨va3, vc3, rfl, _, _⟩ := own3.slice
  have BW3 := Hid.mk' b3
  clear own3 gr3 b3 f0 f1 B2 O2 Z2 S2 BW2 HA HB HC
  go_wp2
  rw [rounds_succ]
  go_wp2
  go_ret
  exact ⟨_, rfl, O3.out, BW3.out⟩
end Go.Proofs.YthffcdahjcpdfaaGreatDoor

namespace Go.Proofs.YthffcdahjcpdfaaGreatDoor
open Go.RowKit
set_option linter.unusedVariables false
set_option linter.unusedSimpArgs false

/-- What Join tells. -/
def joinL (L M : List St) : List St := if rightL (L ++ M) = 0 then L ++ M else []
set_option maxRecDepth 100000 in
set_option maxHeartbeats 2000000 in
theorem join_any (a b : Option Addr) (L M : List St) (n m ca cb : Nat) (w : World) (ha : Sts w a L) (hb : Sts w b M) (hn : L.length = n) (hm : M.length = m)
    (hna : a = none → L = []) (hnb : b = none → M = []) (h : n + m ≤ 4398046510976) (hT : K.V.Tabs w) (a0 a1 a2 : Addr) (hE : Snt w a0 a1 a2) :
    Calls Tryz.prog 6 #[.slice a n ca, .slice b m cb] w fun e w' => ∃ v, e = .returned (.tuple #[v, .int .i64 (rightL (L ++ M))]) ∧ OwnS w' w.heap.size v (joinL L M) ∧ Below w.heap.size w w' := by
  obtain ⟨W0, hW0⟩ : ∃ W, W = w.alloc (.cells #[.slice a n ca, .slice b m cb] 22) := ⟨_, rfl⟩
  have bw : Below w.heap.size w W0 := by rw [hW0]; exact (Below.refl _ _).alloc (Nat.le_refl _) _
  have g := heap_alloc_new w (.cells #[.slice a n ca, .slice b m cb] 22)
  rw [← hW0] at g
  have HC := Hid.mk' (concat_any w.heap.size a b L M n m ca cb W0 _ g (ha.below bw) (hb.below bw) hn hm hna hnb h)
  have HR : Hid (∀ va vc w1, Below w.heap.size w w1 → OwnS w1 w.heap.size (.slice va (L ++ M).length vc) (L ++ M) → Calls Tryz.prog 15 #[.slice va (L ++ M).length vc] w1 fun e w' => e = .returned (.int .i64 (rightL (L ++ M))) ∧ Below w1.heap.size w1 w') := fun va vc w1 b1 ow => by
    obtain ⟨va2, vc2, e, _, st⟩ := ow.slice
    cases e
    exact right_l va (L ++ M) vc w1 st (by rw [List.length_append, hn, hm]; omega) (hT.below b1) a0 a1 a2 (hE.below b1)
  have HJ : Hid ((rightL (L ++ M) = 0 → joinL L M = L ++ M) ∧ (rightL (L ++ M) ≠ 0 → joinL L M = [])) := ⟨fun h => by unfold joinL; rw [if_pos h], fun h => by unfold joinL; rw [if_neg h]⟩
  have N0 : Hid (∀ wx, OwnS wx w.heap.size (.slice none 0 0) []) := fun wx => OwnS.nil wx w.heap.size
  have HW0 := Hid.mk' hW0
  have BW := Hid.mk' bw
  have zw : Hid (w.heap.size ≤ W0.heap.size) := bw.size
  clear ha hb hn hm hna hnb hT hE hW0 bw g
  generalize rightL (L ++ M) = R at *
  go_enter Tryz.func6, Tryz.ntmps6
  go_wp2_with fail
  rw [← HW0.out]
  refine HC.out.mono ?_
  rintro e w1 ⟨v1, rfl, own1, b1⟩
  have ow1 : OwnS w1 w.heap.size v1 (L ++ M) := by
    refine ⟨own1.1, ?_⟩
    rcases own1.2 with hn | ⟨g, cap, cur, e, hbg, rest⟩
    · exact .inl hn
    · exact .inr ⟨g, cap, cur, e, Nat.le_trans zw.out hbg, rest⟩
  have bb : Below w.heap.size w w1 := BW.out.trans (b1.mono zw.out)
  obtain ⟨va, vc, rfl, _, _⟩ := ow1.slice
  have HR2 := Hid.mk' (HR.out va vc w1 bb ow1)
  have O1 := Hid.mk' ow1
  have BB := Hid.mk' bb
  clear own1 b1 bb ow1 HC HR HW0
  generalize hl : (L ++ M).length = q at *
  go_wp2_with fail
  refine HR2.out.mono ?_
  rintro e w2 ⟨rfl, b2⟩
  have BB2 : Hid (Below w.heap.size w w2) := BB.out.trans (b2.mono BB.out.size)
  have O2 : Hid (OwnS w2 w.heap.size (.slice va q vc) (L ++ M)) := O1.out.below b2
  clear b2 HR2 O1 BB BW
  by_cases hR : R = 0
  · have HJ2 : Hid (joinL L M = L ++ M) := HJ.out.1 hR
    clear HJ
    go_wp2
    go_ret2
    exact ⟨_, by rw [hR]; rfl, by rw [HJ2.out]; exact O2.out, BB2.out⟩
  · have HJ2 : Hid (joinL L M = []) := HJ.out.2 hR
    clear HJ
    go_wp2
    go_ret2
    exact ⟨_, rfl, by rw [HJ2.out]; exact N0.out _, BB2.out⟩
end Go.Proofs.YthffcdahjcpdfaaGreatDoor

namespace Go.Proofs.YthffcdahjcpdfaaGreatDoor
open Go.Shelf
def laysAppInt_ren : Go.Shelf.Ren := ⟨fun | 176 => 43 | 249 => 52 | 288 => 58 | 283 => 67 | 284 => 68 | 285 => 69 | 286 => 70 | 129 => 77 | 317 => 76 | 318 => 78 | 319 => 79 | 320 => 80 | 337 => 85 | 338 => 86 | n => n, fun | 37 => 66 | 2 => 2 | 3 => 3 | 53 => 152 | 4 => 4 | 9 => 9 | 171 => 169 | 0 => 0 | 173 => 172 | 212 => 180 | 51 => 174 | 5 => 5 | 20 => 20 | 213 => 181 | 46 => 79 | 232 => 80 | 233 => 188 | n => n, fun | 17 => 5 | 18 => 6 | 19 => 7 | n => n⟩
theorem laysAppInt : Go.Proofs.LaysM.n176 Tryz.prog laysAppInt_ren := {
  mixed := by kernel_rfl
  f129 := Tryz.func77.trans (congrArg some (by kernel_rfl))
  f176 := Tryz.func43.trans (congrArg some (by kernel_rfl))
  f249 := Tryz.func52.trans (congrArg some (by kernel_rfl))
  f283 := Tryz.func67.trans (congrArg some (by kernel_rfl))
  f284 := Tryz.func68.trans (congrArg some (by kernel_rfl))
  f285 := Tryz.func69.trans (congrArg some (by kernel_rfl))
  f286 := Tryz.func70.trans (congrArg some (by kernel_rfl))
  f288 := Tryz.func58.trans (congrArg some (by kernel_rfl))
  f317 := Tryz.func76.trans (congrArg some (by kernel_rfl))
  f318 := Tryz.func78.trans (congrArg some (by kernel_rfl))
  f319 := Tryz.func79.trans (congrArg some (by kernel_rfl))
  f320 := Tryz.func80.trans (congrArg some (by kernel_rfl))
  f337 := Tryz.func85.trans (congrArg some (by kernel_rfl))
  f338 := Tryz.func86.trans (congrArg some (by kernel_rfl))
  t0 := Tryz.underlying0
  a0 := Tryz.isAgg0
  z0 := Tryz.sizeOf0
  v0 := Tryz.zeroValue0
  t2 := Tryz.underlying2
  a2 := Tryz.isAgg2
  z2 := Tryz.sizeOf2
  v2 := Tryz.zeroValue2
  t3 := Tryz.underlying3
  a3 := Tryz.isAgg3
  z3 := Tryz.sizeOf3
  v3 := Tryz.zeroValue3
  t4 := Tryz.underlying4
  a4 := Tryz.isAgg4
  z4 := Tryz.sizeOf4
  v4 := Tryz.zeroValue4
  t5 := Tryz.underlying5
  a5 := Tryz.isAgg5
  z5 := Tryz.sizeOf5
  v5 := Tryz.zeroValue5
  t9 := Tryz.underlying9
  a9 := Tryz.isAgg9
  z9 := Tryz.sizeOf9
  v9 := Tryz.zeroValue9
  t20 := Tryz.underlying20
  a20 := Tryz.isAgg20
  z20 := Tryz.sizeOf20
  v20 := Tryz.zeroValue20
  t37 := Tryz.underlying66
  a37 := Tryz.isAgg66
  z37 := Tryz.sizeOf66
  v37 := Tryz.zeroValue66
  t46 := Tryz.underlying79
  a46 := Tryz.isAgg79
  z46 := Tryz.sizeOf79
  v46 := Tryz.zeroValue79
  t51 := Tryz.underlying174
  a51 := Tryz.isAgg174
  z51 := Tryz.sizeOf174
  v51 := Tryz.zeroValue174
  t53 := Tryz.underlying152
  a53 := Tryz.isAgg152
  z53 := Tryz.sizeOf152
  v53 := Tryz.zeroValue152
  t171 := Tryz.underlying169
  a171 := Tryz.isAgg169
  z171 := Tryz.sizeOf169
  v171 := Tryz.zeroValue169
  t173 := Tryz.underlying172
  a173 := Tryz.isAgg172
  z173 := Tryz.sizeOf172
  v173 := Tryz.zeroValue172
  t212 := Tryz.underlying180
  a212 := Tryz.isAgg180
  z212 := Tryz.sizeOf180
  v212 := Tryz.zeroValue180
  t213 := Tryz.underlying181
  a213 := Tryz.isAgg181
  z213 := Tryz.sizeOf181
  t232 := Tryz.underlying80
  a232 := Tryz.isAgg80
  z232 := Tryz.sizeOf80
  v232 := Tryz.zeroValue80
  t233 := Tryz.underlying188
  a233 := Tryz.isAgg188
  z233 := Tryz.sizeOf188
  v233 := Tryz.zeroValue188
  g17 := by kernel_rfl
  g18 := by kernel_rfl
  g19 := by kernel_rfl
  i0 := by kernel_rfl
  i2 := by kernel_rfl
  i3 := by kernel_rfl
  i4 := by kernel_rfl
  i5 := by kernel_rfl
  i9 := by kernel_rfl
  i20 := by kernel_rfl
  i37 := by kernel_rfl
  i46 := by kernel_rfl
  i51 := by kernel_rfl
  i53 := by kernel_rfl
  i171 := by kernel_rfl
  i173 := by kernel_rfl
  i212 := by kernel_rfl
  i232 := by kernel_rfl
  i233 := by kernel_rfl
  m17 := by kernel_rfl
  m18 := by kernel_rfl
  m19 := by kernel_rfl }
end Go.Proofs.YthffcdahjcpdfaaGreatDoor

