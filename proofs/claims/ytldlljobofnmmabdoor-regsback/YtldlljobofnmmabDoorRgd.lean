import Derived.Test.YtldlljobofnmmabDoorRgc
namespace Go.Proofs.YtldlljobofnmmabDoor
open Go.RowKit
set_option linter.unusedVariables false
set_option linter.unusedSimpArgs false

theorem drop_cons {α : Type} {T : List α} {j : Nat} {t : α} (h : T[j]? = some t) : T.drop j = t :: T.drop (j + 1) := by
  obtain ⟨hl, e⟩ := List.getElem?_eq_some_iff.1 h
  rw [List.drop_eq_getElem_cons hl, e]
set_option maxRecDepth 100000 in
set_option maxHeartbeats 2000000 in
theorem without_nil (a ta : Option Addr) (n c tc : Nat) (w : World) : Calls Tryd.prog 29 #[.slice a n c, .slice ta 0 tc] w fun e w' => e = .returned (.slice a n c) ∧ w' = w := by
  go_enter Tryd.func29, Tryd.ntmps29
  go_wp2
  go_ret
  exact ⟨rfl, rfl⟩
set_option maxRecDepth 100000 in
set_option maxHeartbeats 4000000 in
/-- A list less those taken, where there are any. -/
theorem without_any {w : World} {a : Option Addr} {c : Nat} {L : List EnV} {sn : EnV → Bool} (hL : RN.At w a L) (hc : L.length ≤ c) (ok : ∀ x ∈ L, x.ok) (hn : L.length ≤ 2500000000000) {ta : Option Addr} {tc : Nat} {T : List (Nat × EnV)} (hT : RD.At w ta T) (okT : ∀ t ∈ T, RD.ok t) (eT : T = Rg.hadI sn 0 L) (hne : T ≠ []) :
    Calls Tryd.prog 29 #[.slice a L.length c, .slice ta T.length tc] w fun e w' => ∃ v, e = .returned v ∧ RN.Own w' w.heap.size v (Rg.res sn L) ∧ Below w.heap.size w w' := by
  have hml : T.length ≤ L.length := by rw [eT]; exact Rg.hadI_len sn L 0
  have hm0 : 0 < T.length := List.length_pos_iff.2 hne
  have hwo : Rg.wo L [] 0 T = Rg.res sn L := by rw [eT]; exact Rg.wo_all sn L
  have hok : Rg.WoOk L.length 0 T := by rw [eT]; exact Rg.wo_ok_all sn L
  obtain ⟨n, hnn⟩ : ∃ n, L.length = n := ⟨_, rfl⟩
  obtain ⟨m, hmm⟩ : ∃ m, T.length = m := ⟨_, rfl⟩
  have HN := hidMk hnn
  have HM := hidMk hmm
  rw [hnn] at hn hc hml hok ⊢
  rw [hmm] at hml hm0 ⊢
  obtain ⟨d, hd⟩ : ∃ d, m + d = n := ⟨n - m, by omega⟩
  have HD := hidMk hd
  have HL := hidMk hL
  have HT := hidMk hT
  have HK := hidMk ok
  have HKT := hidMk okT
  have HW := hidMk hwo
  have HO := hidMk hok
  clear hL hT ok okT eT hne hwo hok hnn hmm hd
  obtain ⟨w1, em, om, bm⟩ := RowT.make0 RN_is w w.heap.size d (by show d * 80 ≤ _; have := HD.out; omega) (by have := HD.out; omega) (Nat.le_refl _)
  have EM := hidMk em
  have HI0 : Hid (RN.Own w1 w.heap.size (.slice (some ⟨w.heap.size, 0, none⟩) 0 d) [] ∧ Below w.heap.size w w1) := ⟨om, bm⟩
  clear em om bm
  go_enter Tryd.func29, Tryd.ntmps29
  have hm1 : ((m : Int) == 0) = false := by simp; omega
  go_upto_region 3 with fail
  refine wo3 (la := a) (n := n) (lc := c) (ta := ta) (m := m) (tc := tc) (d := d) (w2 := w1) _ w _ rfl rfl rfl HD.out (by omega) EM.out ?_
  intro a' w' hw' ha
  subst ha
  obtain rfl : w1 = w' := hw'.symm
  simp only [Act.put, List.setIfInBounds_toArray, List.set_cons_zero, List.set_cons_succ]
  clear EM hm1
  go_wp2
  go_loopw [5, 6, 21] (fun v5 v6 v21 wr => ∃ (j f : Nat) (out : List EnV), v21 = .int .i64 (j : Int) ∧ j ≤ m ∧ v6 = .int .i64 (f : Int) ∧ Hid (RN.Own wr w.heap.size v5 out ∧ Below w.heap.size w wr ∧ Rg.wo L out f (T.drop j) = Rg.res sn L ∧ Rg.WoOk n f (T.drop j) ∧ out.length ≤ f)) (fun _ _ v21 wr => m - (match v21 with | .int _ i => i.toNat | _ => 0))
  case atStart => exact ⟨0, 0, [], rfl, Nat.zero_le _, rfl, HI0.out.1, HI0.out.2, by rw [List.drop_zero]; exact HW.out, by rw [List.drop_zero]; exact HO.out, Nat.le_refl _⟩
  case round =>
    clear HI0
    obtain ⟨j, f, out, rfl, hjm, rfl, HI⟩ := hrel
    by_cases hj : j < m
    · obtain ⟨t, htj⟩ : ∃ o, T[j]? = some o := ⟨_, List.getElem?_eq_getElem (by rw [HM.out]; exact hj)⟩
      have ht := HKT.out t (List.mem_of_getElem? htj)
      obtain ⟨tb, to, rfl, lb, hr⟩ := HT.out.at htj
      have dc := drop_cons htj
      obtain ⟨ow, bel, wo, wok, ol⟩ := HI.out
      rw [dc] at wo wok
      obtain ⟨k1, k2, k3⟩ := wok
      have zb := bel.size
      go_upto_region 7 with fail
      refine wo7 (tb := tb) (to := to) (m := m) (tc := tc) (j := j) (t := t) _ wr _ rfl rfl rfl ht hj (by omega) (rangeAt_keep hr (bel.block _ lb)) ?_
      intro a' w2 hw2 ha
      subst ha
      simp only [Act.put, List.setIfInBounds_toArray, List.set_cons_zero, List.set_cons_succ]
      obtain ⟨bx2, b2⟩ := RowT.bx_is RD wr t
      rw [show wr.alloc (.cells (RD.c t).toArray RD.e) = w2 from hw2.symm] at bx2 b2
      clear hw2
      have bel2 := bel.trans (b2.mono zb)
      have ow2 := ow.below b2
      obtain ⟨pa, pc, es, hp⟩ := RowT.sl_mid RN_is (HL.out.below bel2) (by rw [HN.out]; exact hc) k1 (by rw [HN.out]; omega)
      rw [HN.out] at es
      have pl : ((L.take t.1).drop f).length = t.1 - f := by rw [List.length_drop, List.length_take, HN.out]; omega
      have pok : ∀ x ∈ (L.take t.1).drop f, x.ok := fun x hx => HK.out x (List.mem_of_mem_take (List.mem_of_mem_drop hx))
      obtain ⟨u2, w3, e3, o3, g3, q3⟩ := RowT.run_app RN_is w2 w.heap.size _ out pa _ pc ow2 hp pok (by rw [pl]; unfold maxLen; omega) (by rw [pl]; show _ * 80 ≤ _; omega) bel2.size
      rw [pl] at e3
      have bel3 : Below w.heap.size w w3 := bel2.grown g3 bel2.size (fun k hk => (ow2.cells hk).1)
      have bx3 : Hid (RD.Bx w3 wr.heap.size t) := by
        refine (g3.block _ (Array.getElem?_eq_some_iff.1 bx2).1 (fun e => ?_)).trans bx2
        have := ow.lt e.symm
        omega
      have NX : Hid (RN.Own w3 w.heap.size u2 (out ++ (L.take t.1).drop f) ∧ Below w.heap.size w w3 ∧ Rg.wo L (out ++ (L.take t.1).drop f) (t.1 + 1) (T.drop (j + 1)) = Rg.res sn L ∧ Rg.WoOk n (t.1 + 1) (T.drop (j + 1)) ∧ (out ++ (L.take t.1).drop f).length ≤ t.1 + 1) := ⟨o3, bel3, wo, k3, by rw [List.length_append, pl]; omega⟩
      have E3 := hidMk e3
      have ES := hidMk (es w2)
      have ht2 := ht.2
      clear ow wo k3 ow2 hp pok e3 o3 g3 q3 bel3 HI es dc htj hr pl
      go_upto_region 8 with fail
      refine wo8 (bx := wr.heap.size) (f := f) (t := t) (pv := .slice pa (t.1 - f) pc) (u2 := u2) (w2 := w3) _ w2 _ rfl rfl rfl rfl rfl bx2.rng ES.out E3.out ?_
      intro a' w4 hw4 ha
      subst ha
      obtain rfl : w3 = w4 := hw4.symm
      simp only [Act.put, List.setIfInBounds_toArray, List.set_cons_zero, List.set_cons_succ]
      clear E3 ES bx2
      obtain ⟨g, hg⟩ : ∃ g, t.1 + 1 = g := ⟨_, rfl⟩
      rw [hg] at NX
      go_upto_region 9 with fail
      refine wo9 (bx := wr.heap.size) (g := g) (t := t) _ w3 _ rfl rfl bx3.out.rng hg (by omega) ?_
      intro a' w4 hw4 ha
      subst ha
      obtain rfl : w3 = w4 := hw4.symm
      simp only [Act.put, List.setIfInBounds_toArray, List.set_cons_zero, List.set_cons_succ]
      clear bx3 hg
      go_wp2
      rw [show ((j : Int) + 1) = ((j + 1 : Nat) : Int) by omega]
      refine ⟨⟨j + 1, g, _, rfl, hj, rfl, NX⟩, ?_⟩
      show m - ((j + 1 : Nat) : Int).toNat < m - (j : Int).toNat
      omega
    · obtain rfl : m = j := by omega
      obtain ⟨ow, bel, wo, wok, ol⟩ := HI.out
      rw [show T.drop m = [] from List.drop_of_length_le (by rw [HM.out]; omega)] at wo wok
      have hf : f ≤ n := wok
      have wo2 : out ++ L.drop f = Rg.res sn L := wo
      obtain ⟨pa, pc, es, hp, _⟩ := RowT.sl_from RN_is (HL.out.below bel) (by rw [HN.out]; exact hc) (show f ≤ L.length by rw [HN.out]; exact hf)
      rw [HN.out] at es
      have pl : (L.drop f).length = n - f := by rw [List.length_drop, HN.out]
      have pok : ∀ x ∈ L.drop f, x.ok := fun x hx => HK.out x (List.mem_of_mem_drop hx)
      obtain ⟨u2, w3, e3, o3, g3, q3⟩ := RowT.run_app RN_is wr w.heap.size _ out pa _ pc ow hp pok (by rw [pl]; unfold maxLen; omega) (by rw [pl]; show _ * 80 ≤ _; omega) bel.size
      rw [pl] at e3
      rw [wo2] at o3
      have bel3 : Below w.heap.size w w3 := bel.grown g3 bel.size (fun k hk => (ow.cells hk).1)
      have E3 := hidMk e3
      have ES := hidMk (es wr)
      have FN : Hid (RN.Own w3 w.heap.size u2 (Rg.res sn L) ∧ Below w.heap.size w w3) := ⟨o3, bel3⟩
      clear HI ow wo wok wo2 es hp pl pok e3 o3 g3 q3 bel3
      go_upto_region 11 with fail
      refine wo11 (f := f) (pv := .slice pa (n - f) pc) (u2 := u2) (w2 := w3) _ wr _ rfl rfl rfl rfl ES.out E3.out ?_
      intro a' w4 hw4 ha
      subst ha
      obtain rfl : w3 = w4 := hw4.symm
      simp only [Act.put, List.setIfInBounds_toArray, List.set_cons_zero, List.set_cons_succ]
      clear ES E3
      go_wp2
      go_ret
      exact ⟨_, rfl, FN.out.1, FN.out.2⟩
end Go.Proofs.YtldlljobofnmmabDoor
