import Derived.Test.YthlcmijekgjgjaaDoorRd
import Derived.Deep.Upon
import Derived.Deep.Cut
namespace Go.Proofs.YthlcmijekgjgjaaDoor
open Go.RowKit
set_option linter.unusedVariables false
set_option linter.unusedSimpArgs false

theorem wpList_box24 {ops : Array Oper} {rest R : List Oper} {o1 o2 : Oper} {a : Act} {w : World} {Q : Exit → Act → World → Prop} (y : Operand) (d : Nat) (ho1 : o1.op = .alloc 24) (hd : o1.dst = some d) (hR : R = o2 :: rest) (hg1 : o1.guard = none) (hg2 : o2.guard = none) (hd2 : o2.dst = none)
    (ho2 : o2.op = .store 24 (.tmp d) y) (p : List UInt8) (ok : p.length = 32) (he : (a.put (some d) (.pointer (some ⟨w.heap.size, 0, none⟩))).eval (.tmp d) = .pointer (some ⟨w.heap.size, 0, none⟩)) (hy : (a.put (some d) (.pointer (some ⟨w.heap.size, 0, none⟩))).eval y = .agg (kcs p).toArray)
    (hK : wpList Tryd.prog ops Q rest (a.put (some d) (.pointer (some ⟨w.heap.size, 0, none⟩))) (w.alloc (.cells (kcs p).toArray 24))) : wpList Tryd.prog ops Q (o1 :: R) a w := by
  subst hR
  refine wpList_alloc_row hg1 24 ho1 (kcs z32').toArray (z24 w) ?_
  rw [hd]
  refine wpList_store_row hg2 24 (.tmp d) y ho2 w.heap.size (kcs p).toArray he hy 24 (kcs z32').toArray (heap_alloc_new _ _) (by rw [List.size_toArray, kcs_len, ok]; exact s24) (by simp [kcs_len, ok, z32']) (kcs_all p) ?_
  rw [World.setRow_alloc_new, hd2]
  exact hK
theorem load22 (w : World) (q : Nat) (v : Value) (t : TypeId) (hg : w.heap[q]? = some (.cells #[v] t)) : (Instr.loadAt 22 (.pointer (some ⟨q, 0, none⟩))).run Tryd.prog w = .ok v w := by
  have hc : w.cell? ⟨q, 0, none⟩ = some v := (cell_of_row w q 0 #[v] t (0, 0) hg).trans rfl
  go_simp
theorem store22 (w : World) (q : Nat) (v : Value) (a : Option Addr) (m c : Nat) (t : TypeId) (hg : w.heap[q]? = some (.cells #[v] t)) : (Instr.storeAt 22 (.pointer (some ⟨q, 0, none⟩)) (.slice a m c)).run Tryd.prog w = .ok () (w.setCell ⟨q, 0, none⟩ (.slice a m c)) := by
  have hc : w.cell? ⟨q, 0, none⟩ = some v := (cell_of_row w q 0 #[v] t (0, 0) hg).trans rfl
  have hf := frozen_of_row w q 0 #[v] t hg
  go_simp
set_option maxRecDepth 100000 in
set_option maxHeartbeats 4000000 in
/-- NewRing of the document's. -/
theorem rnewRing_any (a : Option Addr) (L : List Hd) (n c : Nat) (w : World) (hln : L.length = n) (hok : ∀ h ∈ L, HdOk h) (hn : n ≤ 3518437208780) (hA : HdsAt w a L) :
    Calls Tryd.prog 5 #[.slice a n c] w fun e w' => ∃ p : Option Addr, e = .returned (.tuple #[.pointer p, .int .i64 (ringE (L.map (·.au)))]) ∧ Below w.heap.size w w' := by
  have HO := Hid.mk' hok
  have HN := Hid.mk' hln
  obtain ⟨A, hAu⟩ : ∃ A, L.map (·.au) = A := ⟨_, rfl⟩
  have HAu := Hid.mk' hAu
  have HAl : Hid (A.length = n) := by show _ = _; rw [← hAu, List.length_map, hln]
  rw [hAu]
  obtain ⟨E, hE⟩ : ∃ E, ringE A = E := ⟨_, rfl⟩
  have HE := Hid.mk' hE
  rw [hE]
  obtain ⟨W1, hW1⟩ : ∃ W1, w.alloc (.cells #[.slice none 0 0] 40) = W1 := ⟨_, rfl⟩
  have b1 : Below w.heap.size w W1 := by rw [← hW1]; exact (Below.refl _ _).alloc (Nat.le_refl _) _
  have G1 : Hid (W1.heap[w.heap.size]? = some (.cells #[.slice none 0 0] 40)) := by show _ = _; rw [← hW1]; exact heap_alloc_new _ _
  have HA := Hid.mk' (hA.below b1)
  have HA0 := Hid.mk' hA
  have HB1 := Hid.mk' b1
  have HW := Hid.mk' hW1
  clear hok hA hln hAu hE hW1 b1
  go_enter Tryd.func5, Tryd.ntmps5
  go_wp2
  rw [HW.out]
  go_loopw [5] (fun i wr => ∃ k : Nat, k ≤ n ∧ i = .int .i64 (k : Int) ∧ wr = W1 ∧ Hid (∀ x ∈ A.take k, okA x = true)) (fun i _ => n - (intOf i).toNat)
  case atStart => exact ⟨0, by omega, rfl, rfl, fun x hx => by simp at hx⟩
  case round =>
    obtain ⟨k, hk, rfl, rfl, HG⟩ := hrel
    by_cases hkn : k < n
    · have hkn' : (k : Int) < (n : Int) := by omega
      obtain ⟨h, hh⟩ : ∃ h, L[k]? = some h := ⟨L[k]'(by rw [HN.out]; exact hkn), List.getElem?_eq_getElem _⟩
      have ak : A[k]? = some h.au := by rw [← HAu.out, List.getElem?_map, hh]; rfl
      have tk : A.take (k + 1) = A.take k ++ [h.au] := by rw [List.take_add_one, ak]; rfl
      obtain ⟨b, off, rfl, hbw, hr⟩ : ∃ b off, a = some ⟨b, off, none⟩ ∧ b < wr.heap.size ∧ ∀ i x, L[i]? = some x → wr.rangeAt b (off + 33 * i) (hdC x) := by
        rcases HA.out with e | e
        · rw [e] at hh; cases hh
        · exact e
      have ix := fun wx => index22 b off n c k wx hkn
      have ca : wr.cell? ⟨b, off + 33 * k, none⟩ = some (.int .i64 h.au) := hr k h hh 0 _ rfl
      have hin : h.au ∈ A := List.mem_of_getElem? ak
      obtain ⟨x, hx0⟩ : ∃ x, h.au = x := ⟨_, rfl⟩
      rw [hx0] at ca tk hin
      clear hr hbw hx0 ak
      by_cases hx : okA x = true
      · have h1 : ¬ x < 1 := by have := of_decide_eq_true hx; omega
        have h2 : ¬ 4294967295 < x := by have := of_decide_eq_true hx; omega
        have HG2 : Hid (∀ y ∈ A.take (k + 1), okA y = true) := fun y hy => by
          rw [tk, List.mem_append] at hy
          rcases hy with hy | hy
          · exact HG.out y hy
          · simp at hy; subst hy; exact hx
        clear tk hin hx HG hh
        go_wp2
        exact ⟨⟨k + 1, by omega, by go_num, trivial, HG2⟩, by simp [intOf]; omega⟩
      · have e0 : E = 51 := by
          rw [← HE.out]
          unfold ringE
          rw [if_neg]
          intro h
          exact hx (List.all_eq_true.1 h x hin)
        have HE0 := Hid.mk' e0
        have hx' : x < 1 ∨ (¬ x < 1 ∧ 4294967295 < x) := by
          have : ¬ (1 ≤ x ∧ x < 4294967296) := fun h => hx (decide_eq_true h)
          omega
        clear tk hin hx HG hh e0
        rcases hx' with h1 | ⟨h1, h2⟩
        · go_wp2
          go_ret2
          rw [HE0.out]
          first | exact ⟨none, rfl, HB1.out⟩ | exact ⟨⟨none, rfl⟩, HB1.out⟩
        · go_wp2
          go_ret2
          rw [HE0.out]
          first | exact ⟨none, rfl, HB1.out⟩ | exact ⟨⟨none, rfl⟩, HB1.out⟩
    · have hkn' : ¬ (k : Int) < (n : Int) := by omega
      have HALL : Hid (A.all okA = true) := List.all_eq_true.2 fun x hx => HG.out x (by rw [List.take_of_length_le (by rw [HAl.out]; omega)]; exact hx)
      have O0 : Hid (OwnHd wr (w.heap.size + 1) (.slice none 0 0) (L.take 0)) := World.ownsRow_nil wr _ 26 33
      clear HG hk
      generalize hW : wr = W0 at *
      clear hW
      go_wp2
      go_loopw [6] (fun i wq => ∃ (j : Nat) (ra : Option Addr) (rc : Nat), j ≤ n ∧ i = .int .i64 (j : Int) ∧ Hid (wq.heap[w.heap.size]? = some (.cells #[.slice ra j rc] 40)) ∧ Hid (OwnHd wq (w.heap.size + 1) (.slice ra j rc) (L.take j)) ∧ Hid (Below w.heap.size w wq) ∧ Hid ((A.take j).Nodup)) (fun i _ => n - (intOf i).toNat)
      case atStart => exact ⟨0, none, 0, by omega, rfl, G1, O0, HB1, by show List.Nodup _; simp⟩
      case round =>
        obtain ⟨j, ra, rc, hj, rfl, GQ, OQ, HB, HND⟩ := hrel
        clear O0 G1 HB1
        have hcq : wr.cell? ⟨w.heap.size, 0, none⟩ = some (.slice ra j rc) := (cell_of_row wr w.heap.size 0 _ _ _ GQ.out).trans rfl
        have zq : w.heap.size < wr.heap.size := (Array.getElem?_eq_some_iff.1 GQ.out).1
        by_cases hjn : j < n
        · have hjn' : (j : Int) < (n : Int) := by omega
          obtain ⟨h, hh⟩ : ∃ h, L[j]? = some h := ⟨L[j]'(by rw [HN.out]; exact hjn), List.getElem?_eq_getElem _⟩
          have OK := Hid.mk' (HO.out h (List.mem_of_getElem? hh))
          have ak : A[j]? = some h.au := by rw [← HAu.out, List.getElem?_map, hh]; rfl
          have ta : A.take (j + 1) = A.take j ++ [h.au] := by rw [List.take_add_one, ak]; rfl
          have tl : L.take (j + 1) = L.take j ++ [h] := by rw [List.take_add_one, hh]; rfl
          have hlt : (L.take j).length = j := by rw [List.length_take, HN.out]; omega
          have tm : (L.take j).map (·.au) = A.take j := by rw [List.map_take, HAu.out]
          have okt : ∀ y ∈ L.take j, HdOk y := fun y hy => HO.out y (List.mem_of_mem_take hy)
          obtain ⟨ra', rc', ev, hds, _⟩ := OQ.out.open okt
          rw [hlt] at ev
          simp only [Value.slice.injEq, true_and] at ev
          obtain ⟨rfl, rfl⟩ := ev
          have HK := Hid.mk' (key_any w.heap.size j rc ra (L.take j) h.au wr hlt okt (by omega) hcq hds)
          rw [tm] at HK
          obtain ⟨b, off, rfl, hbw, hr⟩ : ∃ b off, a = some ⟨b, off, none⟩ ∧ b < w.heap.size ∧ ∀ i x, L[i]? = some x → w.rangeAt b (off + 33 * i) (hdC x) := by
            rcases HA0.out with e | e
            · rw [e] at hh; cases hh
            · exact e
          have ix := fun wx => index22 b off n c j wx hjn
          have HR : Hid (∀ W, Below w.heap.size w W → W.rangeAt b (off + 33 * j) (hdC h)) := fun W hW => rangeAt_keep (hr j h hh) (hW.block b hbw)
          have ca : wr.cell? ⟨b, off + 33 * j, none⟩ = some (.int .i64 h.au) := HR.out wr HB.out 0 _ rfl
          have HTA := Hid.mk' ta
          have HTL := Hid.mk' tl
          have HLT := Hid.mk' hlt
          have HAK := Hid.mk' ak
          clear hds hr hh ak ta tl hlt tm okt hbw
          by_cases hin : h.au ∈ A.take j
          · have HE0 : Hid (E = 5) := by
              show E = 5
              rw [← HE.out]
              unfold ringE
              rw [if_pos HALL.out, if_neg]
              intro nd
              have nd2 : (A.take (j + 1)).Nodup := List.Nodup.sublist (List.take_sublist _ _) nd
              rw [HTA.out, List.nodup_append] at nd2
              exact nd2.2.2 h.au hin h.au (by simp) rfl
            rw [show decide (h.au ∈ A.take j) = true from decide_eq_true hin] at HK
            clear hin
            go_wp2_with (first
              | (go_at_call 8; refine HK.out.mono ?_)
              | fail)
            rintro e W2 ⟨ky, hky, rfl, b2⟩
            have HB2 : Hid (Below w.heap.size w (W2.alloc (.cells (kcs ky).toArray 24))) := (HB.out.trans (b2.mono HB.out.size)).alloc (Nat.le_trans HB.out.size b2.size) _
            clear b2 HK ca hcq
            go_wp2_with (first
              | (with_reducible refine at_al24 ?_; refine wpList_box24 (.tmp 45) 7 rfl rfl rfl rfl rfl rfl rfl ky hky rfl rfl ?_)
              | fail)
            go_ret2
            rw [HE0.out]
            first | exact ⟨none, rfl, HB2.out⟩ | exact ⟨⟨none, rfl⟩, HB2.out⟩
          · rw [show decide (h.au ∈ A.take j) = false from decide_eq_false hin] at HK
            have HND2 : Hid ((A.take (j + 1)).Nodup) := by
              show List.Nodup _
              rw [HTA.out, List.nodup_append]
              refine ⟨HND.out, by simp, fun y hy z hz e => ?_⟩
              simp at hz
              subst hz
              subst e
              exact hin hy
            clear hin
            go_wp2_with (first
              | (go_at_call 8; refine HK.out.mono ?_)
              | fail)
            rintro e W2 ⟨ky, hky, rfl, b2⟩
            obtain ⟨W3, hW3⟩ : ∃ W3, W2.alloc (.cells (kcs ky).toArray 24) = W3 := ⟨_, rfl⟩
            have b3 : Below wr.heap.size wr W3 := by rw [← hW3]; exact b2.alloc b2.size _
            have HW3 := Hid.mk' hW3
            have HB3 := Hid.mk' b3
            clear b2 HK ca hcq hW3 b3
            have D1 : Below wr.heap.size wr W3.drew := HB3.out.drew
            have D0 : Below w.heap.size w W3.drew := HB.out.trans (D1.mono HB.out.size)
            have GD : W3.drew.heap[w.heap.size]? = some (.cells #[.slice ra j rc] 40) := (D1.block _ zq).trans GQ.out
            have OD : OwnHd W3.drew (w.heap.size + 1) (.slice ra j rc) (L.take j) := OQ.out.below D1
            obtain ⟨V1, hV1⟩ : ∃ V1, W3.drew.alloc (.cells (hdC h).toArray 26) = V1 := ⟨_, rfl⟩
            have E1 : Below W3.drew.heap.size W3.drew V1 := by rw [← hV1]; exact (Below.refl _ _).alloc (Nat.le_refl _) _
            have zd : w.heap.size < W3.drew.heap.size := Nat.lt_of_lt_of_le zq D1.size
            have F1 : Below w.heap.size w V1 := D0.trans (E1.mono D0.size)
            have GV1 : V1.heap[w.heap.size]? = some (.cells #[.slice ra j rc] 40) := (E1.block _ zd).trans GD
            obtain ⟨v2, V2, hr2, own2, gr2, bl2⟩ := run_appH V1 (w.heap.size + 1) (.slice ra j rc) (L.take j) (some ⟨W3.drew.heap.size, 0, none⟩) [h] 1 (OD.below E1) (by rw [← hV1]; exact hds_lit _ h 26) (fun y hy => by simp at hy; subst hy; exact OK.out) (by rw [HLT.out]; simp; omega) (by have := E1.size; omega)
            rw [← HTL.out] at own2
            have okt2 : ∀ y ∈ L.take (j + 1), HdOk y := fun y hy => HO.out y (List.mem_of_mem_take hy)
            have hl2 : (L.take (j + 1)).length = j + 1 := by rw [List.length_take, HN.out]; omega
            obtain ⟨ra2, rc2, rfl, _, _⟩ := own2.open okt2
            rw [hl2] at own2 hr2 bl2
            have nb : ∀ kb, (Value.slice ra j rc).ownBlock = some kb → kb ≠ w.heap.size := fun kb e => by have := (World.ownsRow.lt OD kb e).1; omega
            have GV2 : V2.heap[w.heap.size]? = some (.cells #[.slice ra j rc] 40) := (gr2.block _ (Nat.lt_of_lt_of_le zd E1.size) (fun e => nb _ e.symm rfl)).trans GV1
            have F2 : Below w.heap.size w V2 := F1.grown gr2 F1.size (fun kb e => by have := (World.ownsRow.lt OD kb e).1; omega)
            have H9 := run_bs26 h OK.out W3.drew
            rw [hV1] at H9
            have nb2 : ∀ kb, (Value.slice ra2 (j + 1) rc2).ownBlock = some kb → kb ≠ w.heap.size := fun kb e => by have := (World.ownsRow.lt own2 kb e).1; omega
            obtain ⟨V3, hV3⟩ : ∃ V3, V2.setCell ⟨w.heap.size, 0, none⟩ (.slice ra2 (j + 1) rc2) = V3 := ⟨_, rfl⟩
            have GV3 : Hid (V3.heap[w.heap.size]? = some (.cells #[.slice ra2 (j + 1) rc2] 40)) := by
              show _ = _
              rw [← hV3, heap_setCell_same _ _ 0 _ _ _ GV2]
              rfl
            have OV3 : Hid (OwnHd V3 (w.heap.size + 1) (.slice ra2 (j + 1) rc2) (L.take (j + 1))) := own2.keep (fun kb e => by rw [← hV3]; exact Below.heap_setCell _ _ _ _ (nb2 kb e))
            have F3 : Below w.heap.size w V3 := by
              rw [← hV3]
              exact F2.trans ⟨rfl, rfl, rfl, by simp [World.setCell], fun kb hkb => Below.heap_setCell _ _ _ _ (by show kb ≠ w.heap.size; omega)⟩
            have H13 := store22 V2 w.heap.size (.slice ra j rc) ra2 (j + 1) rc2 40 GV2
            rw [hV3] at H13
            have K4 := Hid.mk' (load22 W3.drew w.heap.size _ 40 GD)
            have K4b := Hid.mk' (load22 V1 w.heap.size _ 40 GV1)
            have K9 := Hid.mk' H9
            have K10 := Hid.mk' hr2
            have K13 := Hid.mk' H13
            have SD := Hid.mk' (HR.out _ D0)
            have SV1 := Hid.mk' (HR.out _ F1)
            have SV2 := Hid.mk' (HR.out _ F2)
            have SV3 := Hid.mk' (HR.out _ F3)
            have HF3 := Hid.mk' F3
            have K8 : Hid (∀ wx : World, wx.rangeAt b (off + 33 * j) (hdC h) → (Instr.loadAt 26 (.pointer (some ⟨b, off + 33 * j, none⟩))).run Tryd.prog wx = .ok (.agg (hdC h).toArray) wx) := fun wx hx => load26 wx b _ h OK.out hx
            clear D1 D0 GD OD E1 F1 GV1 own2 gr2 bl2 okt2 hl2 nb GV2 F2 H9 nb2 F3 H13 hV1 hV3 hr2 zd
            go_upto_region 13 with (first
              | (with_reducible refine at_al24 ?_; refine wpList_box24 (.tmp 45) 7 rfl rfl rfl rfl rfl rfl rfl ky hky rfl rfl ?_; rw [HW3.out])
              | fail)
            refine ring13 w.heap.size b (off + 33 * j) (j : Int) _ (.slice ra j rc) _ _ (hdC h).toArray V1 V2 V3 (fun W => W.rangeAt b (off + 33 * j) (hdC h)) _ W3 _ rfl rfl rfl rfl SD.out K4.out K4b.out (fun wx => ix wx) K8.out K9.out SV1.out K10.out SV2.out K13.out SV3.out ?_
            intro a9 hact
            subst hact
            clear K4 K4b K8 K9 K10 K13 SD SV1 SV2 SV3
            simp only [Act.put, List.setIfInBounds_toArray, List.set_cons_zero, List.set_cons_succ]
            go_wp2
            exact ⟨⟨j + 1, ra2, rc2, by omega, by go_num, GV3, OV3, HF3, HND2⟩, by simp [intOf]; omega⟩
        · have hjn' : ¬ (j : Int) < (n : Int) := by omega
          have e0 : E = 0 := by
            rw [← HE.out]
            unfold ringE
            rw [if_pos HALL.out, if_pos]
            have := HND.out
            rwa [List.take_of_length_le (by rw [HAl.out]; omega)] at this
          have HE0 := Hid.mk' e0
          clear e0 hcq zq
          go_wp2
          go_ret2
          rw [HE0.out]
          first | exact ⟨_, rfl, HB.out⟩ | exact ⟨⟨_, rfl⟩, HB.out⟩
end Go.Proofs.YthlcmijekgjgjaaDoor
