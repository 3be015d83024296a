import Derived.Test.YtdajeabhhkgibaaVr
namespace Go.Proofs.Ytdajeabhhkgibaa
open Go.RowKit
set_option linter.unusedVariables false
set_option linter.unusedSimpArgs false

/-- What Of tells of a list. -/
def OfPost (N : Nat) (bits : Nat) (ws : Nat → Nat) (W : World) (e : Ending) (w' : World) : Prop := ∃ q g, e = .returned (.pointer (some ⟨q, 0, none⟩)) ∧ FAt N w' q g bits 7 ws ∧ Below W.heap.size W w'
theorem set_none (q g : Nat) (w : World) (h : FW w q g 64 7 (fun _ => 0)) : Calls Try.prog 33 #[.pointer (some ⟨q, 0, none⟩)] w fun e w' => e = .returned (.int .i64 0) ∧ w' = w := by
  have := set_any q g 64 7 _ w h (fun i => by omega) (by omega)
  rw [cntW_zero] at this
  exact this
theorem has_none (q g : Nat) (w : World) (h : FW w q g 64 7 (fun _ => 0)) : Calls Try.prog 22 #[.pointer (some ⟨q, 0, none⟩), .agg (bs z32)] w fun e w' => e = .returned (.bool false) ∧ Below w.heap.size w w' := by
  have := hasF_any q g 64 7 _ z32 w z32_len (by omega) (by omega) (by omega) h (fun i => by omega)
  rw [all_zero] at this
  exact this
set_option maxRecDepth 100000 in
set_option maxHeartbeats 8000000 in
theorem never_all (a1 a2 : Option Addr) (L M : List (List UInt8)) (c1 c2 : Nat) (w : World) (hL : All32 L) (hM : All32 M) (hn : L.length ≤ 4398046511104) (hm : M.length ≤ 4398046511104) (hl1 : Hl w a1 L) (hl2 : Hl w a2 M) :
    Calls Try.prog 5 #[.slice a1 L.length c1, .slice a2 M.length c2] w fun e w' => e = .returned (.bool true) ∧ Below w.heap.size w w' := by
  have hb0 := ofB_pos (uMap L).length
  have hb1 := ofB_le (uMap L).length
  have HOF : Hid (∀ W, Below w.heap.size w W → Calls Try.prog 9 #[.slice a1 L.length c1] W (OfPost W.heap.size (ofB (uMap L).length) (addL _ hb0 7 (fun _ => 0) L) W)) := fun W hb => of_any a1 L c1 W hL hn (hl1.below hL hb)
  have HON : Hid (∀ W, Calls Try.prog 9 #[.slice none 0 0] W (OfPost W.heap.size 64 (fun _ => 0) W)) := fun W => of_any none [] 0 W (fun h hh => by cases hh) (by simp) (.inl rfl)
  have HLT : Hid (∀ X i, addL (ofB (uMap L).length) hb0 7 (fun _ => 0) X i < 18446744073709551616) := fun X i => addL_lt hb0 7 (fun i => by omega) X i
  have HWI : Hid (∀ X, Within (addL (ofB (uMap L).length) hb0 7 (fun _ => 0) X) (ofB (uMap L).length)) := fun X => within_addL hb0 7 (within_zero _) X
  have HSN : Hid (∀ X h, addL (ofB (uMap L).length) hb0 7 (fun _ => 0) (X ++ [h]) = setAll (addL (ofB (uMap L).length) hb0 7 (fun _ => 0) X) (spotL h (ofB (uMap L).length) hb0 7)) := fun X h => addL_snoc _ hb0 7 _ X h
  have HAL : Hid (∀ X h, h ∈ X → allBits (addL (ofB (uMap L).length) hb0 7 (fun _ => 0) X) (spotL h (ofB (uMap L).length) hb0 7) = true) := fun X h hh => all_added hb0 7 _ hh
  generalize addL (ofB (uMap L).length) hb0 7 (fun _ => 0) = AA at *
  generalize ofB (uMap L).length = bits at *
  have HADD : Hid (∀ W q1 g1 q2 g2 X h, h.length = 32 → TwoF w.heap.size w W q1 g1 q2 g2 bits (AA L) (AA X) → Calls Try.prog 12 #[.pointer (some ⟨q2, 0, none⟩), .agg (bs h)] W fun e w' => e = .returned (.tuple #[]) ∧ TwoF w.heap.size w w' q1 g1 q2 g2 bits (AA L) (AA (X ++ [h]))) := fun W q1 g1 q2 g2 X h hh hT =>
    (add_any q2 g2 bits 7 (AA X) h W hh hb0 hb1 (by omega) hT.g (HLT.out X)).mono (by
      rintro e w' ⟨rfl, hf, hk⟩
      refine ⟨rfl, ?_⟩
      rw [HSN.out]
      exact hT.addG hf hk)
  have HJN : Hid (∀ W q1 g1 q2 g2 X, TwoF w.heap.size w W q1 g1 q2 g2 bits (AA L) (AA X) → Calls Try.prog 14 #[.pointer (some ⟨q1, 0, none⟩), .pointer (some ⟨q2, 0, none⟩)] W fun e w' => e = .returned (.int .i64 0) ∧ TwoF w.heap.size w w' q1 g1 q2 g2 bits (orW (AA L) (AA X) ((bits + 63) / 64)) (AA X)) := fun W q1 g1 q2 g2 X hT =>
    (join_any q1 g1 q2 g2 bits 7 (AA L) (AA X) W hT.f hT.g hT.d1 (fun e => hT.f.fc.ne e.symm) hT.d3 (HLT.out L) (HLT.out X) hb1).mono (by
      rintro e w' ⟨rfl, hf, hk⟩
      exact ⟨rfl, hT.join hf hk⟩)
  have HHF : Hid (∀ W q1 g1 q2 g2 X h, h.length = 32 → h ∈ X → TwoF w.heap.size w W q1 g1 q2 g2 bits (orW (AA L) (AA X) ((bits + 63) / 64)) (AA X) → Calls Try.prog 22 #[.pointer (some ⟨q1, 0, none⟩), .agg (bs h)] W fun e w' => e = .returned (.bool true) ∧ TwoF w.heap.size w w' q1 g1 q2 g2 bits (orW (AA L) (AA X) ((bits + 63) / 64)) (AA X)) := fun W q1 g1 q2 g2 X h hh hX hT =>
    (hasF_any q1 g1 bits 7 _ h W hh hb0 hb1 (by omega) hT.f (orW_lt (HLT.out L) (HLT.out X) _)).mono (by
      rintro e w' ⟨rfl, hb⟩
      rw [all_orW (HAL.out X h hX)]
      exact ⟨rfl, hT.below hb⟩)
  have HHG : Hid (∀ W q1 g1 q2 g2 X h, h.length = 32 → h ∈ X → TwoF w.heap.size w W q1 g1 q2 g2 bits (orW (AA L) (AA X) ((bits + 63) / 64)) (AA X) → Calls Try.prog 22 #[.pointer (some ⟨q2, 0, none⟩), .agg (bs h)] W fun e w' => e = .returned (.bool true) ∧ TwoF w.heap.size w w' q1 g1 q2 g2 bits (orW (AA L) (AA X) ((bits + 63) / 64)) (AA X)) := fun W q1 g1 q2 g2 X h hh hX hT =>
    (hasF_any q2 g2 bits 7 _ h W hh hb0 hb1 (by omega) hT.g (HLT.out X)).mono (by
      rintro e w' ⟨rfl, hb⟩
      rw [HAL.out X h hX]
      exact ⟨rfl, hT.below hb⟩)
  have HST : Hid (∀ W q1 g1 q2 g2 X, TwoF w.heap.size w W q1 g1 q2 g2 bits (orW (AA L) (AA X) ((bits + 63) / 64)) (AA X) → ∃ c : Nat, c ≤ bits ∧ (Calls Try.prog 33 #[.pointer (some ⟨q1, 0, none⟩)] W fun e w' => e = .returned (.int .i64 (c : Int)) ∧ w' = W) ∧ (Calls Try.prog 32 #[.pointer (some ⟨q1, 0, none⟩)] W fun e w' => e = .returned (.int .i64 (bits : Int)) ∧ w' = W)) := fun W q1 g1 q2 g2 X hT =>
    ⟨_, cntW_bits (within_orW (HWI.out L) (HWI.out X)) (orW_lt (HLT.out L) (HLT.out X) _) ((bits + 63) / 64) (Nat.le_refl _), set_any q1 g1 bits 7 _ W hT.f (orW_lt (HLT.out L) (HLT.out X) _) hb1, bits_any q1 g1 bits 7 W hT.f.fc⟩
  have HMK : Hid (∀ W1 W2 q1 g1 q2 g2, FAt w.heap.size W1 q1 g1 bits 7 (AA L) → Below w.heap.size w W1 → FAt W1.heap.size W2 q2 g2 bits 7 (AA L) → Below W1.heap.size W1 W2 → TwoF w.heap.size w W2 q1 g1 q2 g2 bits (AA L) (AA (L ++ M.take 0))) := fun W1 W2 q1 g1 q2 g2 h1 b1 h2 b2 => by
    have k1 := h1.fw.wr.lt
    have k2 := h1.fw.fc.lt
    have k3 := h2.lq
    have k4 := h2.lg
    have k5 := h1.lg
    rw [List.take_zero, List.append_nil]
    exact ⟨h1.fw.below b2, h2.fw, b1.trans (b2.mono b1.size), h1.lg, by omega, by omega, by omega, by omega⟩
  have HL1 := Hid.mk' (fun W (h : Below w.heap.size w W) => hl1.below hL h)
  have HL2 := Hid.mk' (fun W (h : Below w.heap.size w W) => hl2.below hM h)
  have HA1 := Hid.mk' hL
  have HA2 := Hid.mk' hM
  clear hl1 hl2 hL hM HLT HWI HSN HAL
  generalize hnL : L.length = n at *
  generalize hnM : M.length = m at *
  have HNL := Hid.mk' hnL
  have HNM := Hid.mk' hnM
  clear hnL hnM
  go_enter Try.func5, Try.ntmps5
  go_wp2_with (first
    | (go_at_call 9; refine (HOF.out _ (Below.refl _ _)).mono ?_; rintro e W1 ⟨q1, g1, rfl, f1, b1⟩; have F1 := Hid.mk' f1; have B1 := Hid.mk' b1; clear f1 b1; have HOF2 := Hid.mk' (HOF.out _ B1.out); clear HOF)
    | (go_at_call 9; refine HOF2.out.mono ?_; rintro e W2 ⟨q2, g2, rfl, f2, b2⟩; have T0 := Hid.mk' (HMK.out _ _ _ _ _ _ F1.out B1.out f2 b2); clear f2 b2 HOF2 F1 B1 HMK)
    | fail)
  generalize hWF : orW (AA L) (AA (L ++ M)) ((bits + 63) / 64) = WF at *
  have HWF := Hid.mk' hWF
  clear hWF
  go_loopw [7] (fun i wr => ∃ k : Nat, k ≤ m ∧ i = .int .i64 (k : Int) ∧ Hid (TwoF w.heap.size w wr q1 g1 q2 g2 bits (AA L) (AA (L ++ M.take k)))) (fun i _ => m - (intOf i).toNat)
  case atStart => exact ⟨0, by omega, rfl, T0⟩
  case round =>
    obtain ⟨k, hk, rfl, HT⟩ := hrel
    clear T0
    by_cases hkm : k < m
    · have hkm' : (k : Int) < (m : Int) := by omega
      obtain ⟨b, off, rfl, hs⟩ := (HL2.out wr HT.out.be).at (i := k) (by rw [HNM.out]; exact hkm)
      obtain ⟨h, hh⟩ : ∃ h, M[k]? = some h := ⟨M[k]'(by rw [HNM.out]; exact hkm), List.getElem?_eq_getElem _⟩
      have HRA := Hid.mk' (hs k h hh)
      have HH := Hid.mk' (HA2.out.get hh)
      have ix := fun wx => indexH b off m c2 k wx hkm
      have HS : Hid (L ++ M.take (k + 1) = (L ++ M.take k) ++ [h]) := by show _ = _; rw [List.take_add_one, hh, Option.toList, List.append_assoc]
      have HC := Hid.mk' (HADD.out wr q1 g1 q2 g2 _ h HH.out HT.out)
      clear hs hh HL1 HL2 HA1 HA2 HADD HJN HHF HHG HST HON
      go_wp2_with (first
        | (with_reducible refine at_ld ?_; refine wpList_ld (.tmp 30) rfl rfl b (off + 32 * k) rfl h HH.out HRA.out ?_)
        | (go_at_call 12; refine HC.out.mono ?_; rintro e W3 ⟨rfl, t3⟩; have T3 := Hid.mk' t3; clear t3)
        | fail)
      exact ⟨⟨k + 1, by omega, by go_num, by rw [HS.out]; exact T3⟩, by simp [intOf]; omega⟩
    · obtain rfl : k = m := by omega
      have hkm' : ¬ (k : Int) < (k : Int) := by omega
      have hTM : M.take k = M := by rw [← HNM.out, List.take_length]
      rw [hTM] at HT
      have HC := Hid.mk' (HJN.out wr q1 g1 q2 g2 _ HT.out)
      rw [HWF.out] at HC
      clear hTM HADD HJN
      go_wp2_with (first
        | (go_at_call 14; refine HC.out.mono ?_; rintro e W3 ⟨rfl, t3⟩; have T3 := Hid.mk' t3; clear t3 HC)
        | fail)
      have HHF' := Hid.mk' (fun W h => HHF.out W q1 g1 q2 g2 (L ++ M) h)
      have HHG' := Hid.mk' (fun W h => HHG.out W q1 g1 q2 g2 (L ++ M) h)
      have HST' := Hid.mk' (fun W => HST.out W q1 g1 q2 g2 (L ++ M))
      rw [HWF.out] at HHF' HHG' HST'
      clear HHF HHG HST HWF
      go_loopw [8] (fun i wr => ∃ j : Nat, j ≤ n ∧ i = .int .i64 (j : Int) ∧ Hid (TwoF w.heap.size w wr q1 g1 q2 g2 bits WF (AA (L ++ M)))) (fun i _ => n - (intOf i).toNat)
      case atStart => exact ⟨0, by omega, rfl, T3⟩
      case round =>
        obtain ⟨j, hj, rfl, HT2⟩ := hrel
        clear T3
        by_cases hjn : j < n
        · have hjn' : (j : Int) < (n : Int) := by omega
          obtain ⟨b, off, rfl, hs⟩ := (HL1.out wr HT2.out.be).at (i := j) (by rw [HNL.out]; exact hjn)
          obtain ⟨h, hh⟩ : ∃ h, L[j]? = some h := ⟨L[j]'(by rw [HNL.out]; exact hjn), List.getElem?_eq_getElem _⟩
          have HRA := Hid.mk' (fun W (hb : TwoF w.heap.size w W q1 g1 q2 g2 bits WF (AA (L ++ M))) => ((HL1.out W hb.be).at (i := j) (by rw [HNL.out]; exact hjn)))
          have HRB : Hid (∀ W, TwoF w.heap.size w W q1 g1 q2 g2 bits WF (AA (L ++ M)) → W.rangeAt b (off + 32 * j) (hcs h)) := fun W hb => by
            obtain ⟨b', off', e, hs'⟩ := HRA.out W hb
            cases e
            exact hs' j h hh
          have HH := Hid.mk' (HA1.out.get hh)
          have HX : Hid (h ∈ L ++ M) := List.mem_append.2 (.inl (List.mem_of_getElem? hh))
          have ix := fun wx => indexH b off n c1 j wx hjn
          have HR1 := Hid.mk' (HRB.out _ HT2.out)
          have HC1 := Hid.mk' (HHF'.out _ h HH.out HX.out HT2.out)
          clear hs hh HL1 HL2 HA1 HA2 HST' HON HRA
          go_wp2_with (first
            | (with_reducible refine at_ld ?_; refine wpList_ldw (.tmp 46) rfl rfl b (off + 32 * j) rfl h HH.out HR1.out ?_)
            | (go_at_call 22; refine HC1.out.mono ?_; clear HC1; rintro e W4 ⟨rfl, t4⟩; have HR2 := Hid.mk' (HRB.out _ t4); have HC2 := Hid.mk' (HHG'.out _ h HH.out HX.out t4); clear t4)
            | (with_reducible refine at_ld ?_; refine wpList_ldw (.tmp 54) rfl rfl b (off + 32 * j) rfl h HH.out HR2.out ?_)
            | (go_at_call 22; refine HC2.out.mono ?_; clear HC2; rintro e W5 ⟨rfl, t5⟩; have T5 := Hid.mk' t5; clear t5)
            | fail)
          exact ⟨⟨j + 1, by omega, by go_num, T5⟩, by simp [intOf]; omega⟩
        · obtain rfl : j = n := by omega
          have hjn' : ¬ (j : Int) < (j : Int) := by omega
          go_wp2
          go_loopw [9] (fun i wr => ∃ j : Nat, j ≤ k ∧ i = .int .i64 (j : Int) ∧ Hid (TwoF w.heap.size w wr q1 g1 q2 g2 bits WF (AA (L ++ M)))) (fun i _ => k - (intOf i).toNat)
          case atStart => exact ⟨0, by omega, rfl, HT2⟩
          case round =>
            obtain ⟨i, hi, rfl, HT3⟩ := hrel
            clear HT2
            by_cases hik : i < k
            · have hik' : (i : Int) < (k : Int) := by omega
              obtain ⟨b, off, rfl, hs⟩ := (HL2.out wr HT3.out.be).at (i := i) (by rw [HNM.out]; exact hik)
              obtain ⟨h, hh⟩ : ∃ h, M[i]? = some h := ⟨M[i]'(by rw [HNM.out]; exact hik), List.getElem?_eq_getElem _⟩
              have HRB : Hid (∀ W, TwoF w.heap.size w W q1 g1 q2 g2 bits WF (AA (L ++ M)) → W.rangeAt b (off + 32 * i) (hcs h)) := fun W hb => by
                obtain ⟨b', off', e, hs'⟩ := (HL2.out W hb.be).at (i := i) (by rw [HNM.out]; exact hik)
                cases e
                exact hs' i h hh
              have HH := Hid.mk' (HA2.out.get hh)
              have HX : Hid (h ∈ L ++ M) := List.mem_append.2 (.inr (List.mem_of_getElem? hh))
              have ix := fun wx => indexH b off k c2 i wx hik
              have HR1 := Hid.mk' (HRB.out _ HT3.out)
              have HC1 := Hid.mk' (HHF'.out _ h HH.out HX.out HT3.out)
              clear hs hh HL1 HL2 HA1 HA2 HST' HON
              go_wp2_with (first
                | (with_reducible refine at_ld ?_; refine wpList_ldw (.tmp 68) rfl rfl b (off + 32 * i) rfl h HH.out HR1.out ?_)
                | (go_at_call 22; refine HC1.out.mono ?_; clear HC1; rintro e W4 ⟨rfl, t4⟩; have HR2 := Hid.mk' (HRB.out _ t4); have HC2 := Hid.mk' (HHG'.out _ h HH.out HX.out t4); clear t4)
                | (with_reducible refine at_ld ?_; refine wpList_ldw (.tmp 76) rfl rfl b (off + 32 * i) rfl h HH.out HR2.out ?_)
                | (go_at_call 22; refine HC2.out.mono ?_; clear HC2; rintro e W5 ⟨rfl, t5⟩; have T5 := Hid.mk' t5; clear t5)
                | fail)
              exact ⟨⟨i + 1, by omega, by go_num, T5⟩, by simp [intOf]; omega⟩
            · obtain rfl : i = k := by omega
              have hik' : ¬ (i : Int) < (i : Int) := by omega
              clear HHF' HHG' HL1 HL2 HA1 HA2
              go_wp2_with (first
                | (go_at_call 9; refine (HON.out _).mono ?_; clear HON; rintro e W6 ⟨q3, g3, rfl, f6, b6⟩; have T6 := Hid.mk' (HT3.out.below b6); have HN1 := Hid.mk' (bits_any q3 g3 64 7 W6 f6.fw.fc); have HN2 := Hid.mk' (set_none q3 g3 W6 f6.fw); have HN3 := Hid.mk' (has_none q3 g3 W6 f6.fw); clear f6 b6)
                | (go_at_call 32; refine HN1.out.mono ?_; clear HN1; rintro e W7 ⟨rfl, hw⟩; obtain rfl := hw.symm)
                | (go_at_call 33; refine HN2.out.mono ?_; clear HN2; rintro e W7 ⟨rfl, hw⟩; obtain rfl := hw.symm)
                | (with_reducible refine at_bd ?_; refine wpList_bdz rfl rfl ?_)
                | (go_at_call 22; refine HN3.out.mono ?_; clear HN3; rintro e W8 ⟨rfl, b8⟩; have T8 := Hid.mk' (T6.out.below b8); clear b8; obtain ⟨c, hcb, hc1, hc2⟩ := HST'.out _ T8.out; have HS1 := Hid.mk' hc1; have HS2 := Hid.mk' hc2; clear hc1 hc2; have hcb' : (c : Int) ≤ (bits : Int) := (by omega))
                | (go_at_call 33; refine HS1.out.mono ?_; clear HS1; rintro e W9 ⟨rfl, hw⟩; obtain rfl := hw.symm)
                | (go_at_call 32; refine HS2.out.mono ?_; clear HS2; rintro e W9 ⟨rfl, hw⟩; obtain rfl := hw.symm)
                | fail)
              go_ret
              exact ⟨rfl, T8.out.be⟩
end Go.Proofs.Ytdajeabhhkgibaa
