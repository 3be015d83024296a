import Derived.Test.YtphpaaajfcbafaaPe
namespace Go.Proofs.Ytphpaaajfcbafaa.K
open Go.RowKit
set_option linter.unusedVariables false
set_option linter.unusedSimpArgs false

set_option maxRecDepth 100000 in
set_option maxHeartbeats 400000 in
/-- The document's Runs. -/
theorem rruns_any (a : Option Addr) (L : List Nat) (n cap : Nat) (w : World) (hn : L.length = n) (hcap : L.length ≤ cap) (h : Nums w a L) (hv : ∀ x ∈ L, x < 18446744073709551616) (hb : L.length ≤ 17592186044416) :
    Calls Try.prog 6 #[.slice a n cap] w fun e w' => ∃ v, e = .returned v ∧ OwnB w' w.heap.size v (rn L) ∧ Below w.heap.size w w' := by
  subst hn
  have HT := Hid.mk' (rn_le L hb hv)
  have H0 := Hid.mk' (WG.start w 43)
  have HX : Hid (∀ j, L.getD j 0 < 18446744073709551616) := fun j => by
    by_cases hj : j < L.length
    · rw [List.getD_eq_getElem?_getD, List.getElem?_eq_getElem hj]; exact hv _ (List.getElem_mem hj)
    · rw [List.getD_eq_getElem?_getD, List.getElem?_eq_none (by omega)]; simp
  have HA : Hid (∀ W M i, WG w W 43 M → i < L.length → Calls Try.prog 17 #[.slice a L.length cap, .int .i64 (i : Int)] W fun e w' => e = .returned (.int .i64 (al (L.drop i) : Int)) ∧ ∃ m, w' = W.drewN m) := fun W M i hW hi => ralike_any a L L.length cap i W rfl (h.below hW.below) hi hb
  have HI : Hid (∀ W M v, WG w W 43 M → M.length ≤ 211106232533000 → -9223372036854775808 ≤ v → v < 9223372036854775808 → Calls Try.prog 18 #[.pointer (some ⟨w.heap.size, 0, none⟩), .int .i64 v] W fun x w' => x = .returned (.tuple #[]) ∧ WG w w' 43 (M ++ vint (zig v))) := fun W M v hW hM h0 h1 => hW.xint v h0 h1 (by omega)
  have HU : Hid (∀ W M j, WG w W 43 M → M.length ≤ 211106232533000 → Calls Try.prog 19 #[.pointer (some ⟨w.heap.size, 0, none⟩), .int .u64 ((L.getD j 0 : Nat) : Int)] W fun x w' => x = .returned (.tuple #[]) ∧ WG w w' 43 (M ++ vint (L.getD j 0))) := fun W M j hW hM => hW.xuint _ (HX.out j) (by omega)
  have HC : Hid (∀ W M j, WG w W 43 M → j < L.length → ∃ b off, a = some ⟨b, off, none⟩ ∧ W.cell? ⟨b, off + j, none⟩ = some (.int .u64 ((L.getD j 0 : Nat) : Int))) := fun W M j hW hj => by
    obtain ⟨b, off, e, hbl, hc⟩ := h.open (by omega)
    exact ⟨b, off, e, (hW.below.cell (p := ⟨b, off + j, none⟩) hbl).trans (hc j hj)⟩
  clear h hv hcap
  go_enter Try.func6, Try.ntmps6
  go_wp2
  go_loopw [4, 5, 6] (fun x _ _ wr => ∃ (i : Nat) (M : List UInt8), x = .int .i64 (i : Int) ∧ i ≤ L.length ∧ Hid (M ++ rn (L.drop i) = rn L) ∧ Hid (WG w wr 43 M)) (fun x _ _ _ => L.length - (intOf x).toNat)
  case atStart => exact ⟨0, [], rfl, by omega, by show _ = _; simp, H0⟩
  case round =>
    clear H0
    obtain ⟨i, M, rfl, hi, HM, HG⟩ := hrel
    have HML : Hid (M.length + (rn (L.drop i)).length ≤ 211106232533000) := by
      show _ ≤ _
      have := HT.out
      rw [← HM.out, List.length_append] at this
      exact this
    by_cases hlt : i < L.length
    · have hlt' : (i : Int) < (L.length : Int) := by omega
      have hal := al_le (L.drop i)
      have hal1 := al_pos (L.drop i) (by rw [List.length_drop]; omega)
      rw [List.length_drop] at hal
      have HA1 := Hid.mk' (HA.out wr M i HG.out hlt)
      have hne : L.drop i ≠ [] := fun e => by have := congrArg List.length e; simp at this; omega
      by_cases h1 : 1 < al (L.drop i)
      · have h1' : 1 < (al (L.drop i) : Int) := by omega
        have hg0 : (L.drop i).getD 0 0 = L.getD i 0 := by simp
        have HM2 : Hid (M ++ vint (zig (al (L.drop i) : Int)) ++ vint (L.getD i 0) ++ rn (L.drop (i + al (L.drop i))) = rn L) := by
          show _ = _
          rw [← HM.out, rn_run (L.drop i) h1, hg0, List.drop_drop]
          simp
        have HL1 : Hid (M.length ≤ 211106232533000) := by show _ ≤ _; have := HML.out; omega
        have HL2 : Hid ((M ++ vint (zig (al (L.drop i) : Int))).length ≤ 211106232533000) := by
          show _ ≤ _
          have := HML.out
          rw [rn_run (L.drop i) h1, List.length_append, List.length_append] at this
          rw [List.length_append]
          omega
        have HUi : Hid (∀ W M, WG w W 43 M → M.length ≤ 211106232533000 → Calls Try.prog 19 #[.pointer (some ⟨w.heap.size, 0, none⟩), .int .u64 ((L.getD i 0 : Nat) : Int)] W fun x w' => x = .returned (.tuple #[]) ∧ WG w w' 43 (M ++ vint (L.getD i 0))) := fun W M hW hM => HU.out W M i hW hM
        have HCi : Hid (∀ W M, WG w W 43 M → ∃ b off, a = some ⟨b, off, none⟩ ∧ W.cell? ⟨b, off + i, none⟩ = some (.int .u64 ((L.getD i 0 : Nat) : Int))) := fun W M hW => HC.out W M i hW hlt
        clear HM HML hne hg0
        generalize L.getD i 0 = y at *
        generalize al (L.drop i) = q at *
        go_wp2_with (first
          | (go_at_call 17; refine HA1.out.mono ?_; rintro e W1 ⟨rfl, m1, rfl⟩)
          | (go_at_call 18; refine (HI.out _ M _ (HG.out.drew m1) HL1.out (by omega) (by omega)).mono ?_; rintro e W2 ⟨rfl, g2⟩; have G2 := Hid.mk' g2; clear g2; obtain ⟨b, off, rfl, c2⟩ := HCi.out _ _ G2.out)
          | (go_at_call 19; refine (HUi.out _ _ G2.out HL2.out).mono ?_; rintro e W3 ⟨rfl, g3⟩; have G3 := Hid.mk' g3; clear g3)
          | fail)
        go_roundw
        case rel => exact ⟨i + q, _, by first | rfl | go_num, by omega, HM2, G3⟩
        case measure => simp [intOf]; omega
      · have h1' : ¬ 1 < (al (L.drop i) : Int) := by omega
        have HR : Hid (rn (L.drop i) = vint (zig (-(ul (L.drop i) : Int))) ++ vs ((L.drop i).take (ul (L.drop i))) ++ rn (L.drop (i + ul (L.drop i)))) := by
          show _ = _
          rw [rn_row (L.drop i) hne h1, List.drop_drop]
        have hu1 := ul_pos (L.drop i) (by omega)
        have hu2 := ul_le (L.drop i)
        rw [List.length_drop] at hu2
        have HLS : Hid (∀ t, (M ++ (vint (zig (-(ul (L.drop i) : Int))) ++ vs ((L.drop i).take (min t (ul (L.drop i)))))).length ≤ 211106232533000) := fun t => by
          have h3 := HML.out
          rw [HR.out, List.length_append, List.length_append] at h3
          have e := vs_app ((L.drop i).take (min t (ul (L.drop i)))) (((L.drop i).take (ul (L.drop i))).drop (min t (ul (L.drop i))))
          rw [show (L.drop i).take (min t (ul (L.drop i))) = ((L.drop i).take (ul (L.drop i))).take (min t (ul (L.drop i))) by rw [List.take_take]; congr 1; omega, List.take_append_drop] at e
          rw [show (L.drop i).take (min t (ul (L.drop i))) = ((L.drop i).take (ul (L.drop i))).take (min t (ul (L.drop i))) by rw [List.take_take]; congr 1; omega]
          rw [e, List.length_append] at h3
          rw [List.length_append, List.length_append]
          omega
        have HL1 : Hid (M.length ≤ 211106232533000) := by show _ ≤ _; have := HML.out; omega
        clear hne hal hal1 h1 HML
        generalize al (L.drop i) = q at *
        generalize hu : ul (L.drop i) = u at *
        have HU0 := Hid.mk' hu
        clear hu
        have HIr : Hid (∀ W v, WG w W 43 M → v = -(u : Int) → Calls Try.prog 18 #[.pointer (some ⟨w.heap.size, 0, none⟩), .int .i64 v] W fun x w' => x = .returned (.tuple #[]) ∧ WG w w' 43 (M ++ vint (zig (-(u : Int))))) := fun W v hW hv => by
          subst hv
          exact HI.out W M _ hW HL1.out (by omega) (by omega)
        generalize vint (zig (-(u : Int))) = ZZ at *
        have HLS' : Hid (∀ t, t ≤ u → (M ++ (ZZ ++ vs ((L.drop i).take t))).length ≤ 211106232533000) := fun t ht => by
          have := HLS.out t
          rw [Nat.min_eq_left ht] at this
          exact this
        clear HLS
        go_wp2_with (first
          | (go_at_call 17; refine HA1.out.mono ?_; rintro e W1 ⟨rfl, m1, rfl⟩)
          | fail)
        clear HA1
        go_loopw [6] (fun x wr' => ∃ (k m : Nat), x = .int .i64 (k : Int) ∧ i ≤ k ∧ k ≤ i + u ∧ Hid (u = k - i + ul (L.drop k)) ∧ wr' = wr.drewN m) (fun x _ => L.length - (intOf x).toNat)
        case atStart => exact ⟨i, m1, rfl, by omega, by omega, by show _ = _; rw [HU0.out]; omega, rfl⟩
        case round =>
          obtain ⟨k, m, rfl, hk1, hk2, HK, rfl⟩ := hrel
          by_cases hkl : k < L.length
          · have hkl' : (k : Int) < (L.length : Int) := by omega
            have HA2 := Hid.mk' (HA.out (wr.drewN m) M k (HG.out.drew m) hkl)
            have hap := al_pos (L.drop k) (by rw [List.length_drop]; omega)
            by_cases hone : al (L.drop k) = 1
            · have HK2 : Hid (u = k + 1 - i + ul (L.drop (k + 1))) := by
                show _ = _
                have := HK.out
                rw [ul_row L k hkl hone] at this
                omega
              have hk3 : k + 1 ≤ i + u := by have := HK2.out; omega
              rw [hone] at HA2
              clear hone hap HK
              go_wp2_with (first
                | (go_at_call 17; refine HA2.out.mono ?_; rintro e W1 ⟨rfl, m2, rfl⟩)
                | fail)
              go_roundw
              case rel => exact ⟨k + 1, m + m2, by go_num, by omega, by omega, HK2, by first | rfl | exact World.drewN_drewN _ _ _⟩
              case measure => simp [intOf]; omega
            · have HK2 : Hid (k = i + u) := by
                show _ = _
                have := HK.out
                rw [ul_run L k (by omega)] at this
                omega
              have hq1 : ((al (L.drop k) : Int) == 1) = false := by simp; omega
              clear hone hap
              generalize al (L.drop k) = z at *
              go_wp2_with (first
                | (go_at_call 17; refine HA2.out.mono ?_; rintro e W1 ⟨rfl, m2, rfl⟩)
                | fail)
              have HGm : Hid (∀ m, WG w (wr.drewN m) 43 M) := fun m => HG.out.drew m
              go_wp2_with (first
                | (go_at_call 18; refine (HIr.out _ _ (HGm.out _) (by have := HK2.out; first | rfl | omega | (rw [IntKind.wrap_i64]; omega))).mono ?_; rintro e W4 ⟨rfl, g4⟩; have G4 := Hid.mk' g4; clear g4)
                | fail)
              clear HGm
              go_loopw [4] (fun x wr' => ∃ s : Nat, x = .int .i64 (s : Int) ∧ i ≤ s ∧ s ≤ k ∧ Hid (WG w wr' 43 (M ++ (ZZ ++ vs ((L.drop i).take (s - i)))))) (fun x _ => k - (intOf x).toNat)
              case atStart => exact ⟨i, rfl, by omega, by omega, by show WG _ _ _ _; rw [Nat.sub_self, List.take_zero, vs_nil, List.append_nil]; exact G4.out⟩
              case round =>
                clear G4
                obtain ⟨s, rfl, hs1, hs2, HS⟩ := hrel
                by_cases hsk : s < k
                · have hsk' : (s : Int) < (k : Int) := by omega
                  have hsl : s < L.length := by omega
                  have HUs : Hid (∀ W M, WG w W 43 M → M.length ≤ 211106232533000 → Calls Try.prog 19 #[.pointer (some ⟨w.heap.size, 0, none⟩), .int .u64 ((L.getD s 0 : Nat) : Int)] W fun x w' => x = .returned (.tuple #[]) ∧ WG w w' 43 (M ++ vint (L.getD s 0))) := fun W M hW hM => HU.out W M s hW hM
                  obtain ⟨b, off, rfl, c2⟩ := HC.out wr _ s HS.out hsl
                  have HUs2 := Hid.mk' (HUs.out wr _ HS.out (HLS'.out (s - i) (by have := HK2.out; omega)))
                  have e7 : (L.drop i).take (s - i) ++ [L.getD s 0] = (L.drop i).take (s + 1 - i) := by
                    rw [show s + 1 - i = (s - i) + 1 by omega, List.take_succ_eq_append_getElem (by rw [List.length_drop]; omega)]
                    congr 2
                    rw [List.getD_eq_getElem?_getD, List.getElem?_eq_getElem hsl, List.getElem_drop]
                    simp only [Option.getD_some]
                    congr 1
                    omega
                  rw [List.append_assoc, List.append_assoc, ← vs_one (L.getD s 0), ← vs_app, e7] at HUs2
                  clear HUs e7 HS
                  generalize L.getD s 0 = y at *
                  go_wp2_with (first
                    | (go_at_call 19; refine HUs2.out.mono ?_; rintro e W5 ⟨rfl, g5⟩; have G5 := Hid.mk' g5; clear g5)
                    | fail)
                  exact ⟨⟨s + 1, by go_num, by omega, by omega, G5⟩, by simp [intOf]; omega⟩
                · obtain rfl : s = k := by omega
                  have hsk' : ¬ (s : Int) < (s : Int) := by omega
                  have HF : Hid (M ++ (ZZ ++ vs ((L.drop i).take (s - i))) ++ rn (L.drop s) = rn L) := by
                    show _ = _
                    have e1 : s - i = u := by have := HK2.out; omega
                    rw [← HM.out, HR.out, e1, HK2.out]
                    simp
                  have hu3 : i < s := by have := HK2.out; omega
                  have hu4 : s ≤ L.length := by omega
                  clear HK2 HK
                  go_wp2
                  go_roundw
                  case rel => exact ⟨s, _, rfl, hu4, HF, HS⟩
                  case measure => simp [intOf]; omega
          · have HK2 : Hid (k = i + u) := by
              show _ = _
              have := HK.out
              rw [List.drop_of_length_le (by omega)] at this
              simp [ul] at this
              omega
            have hkl' : ¬ (k : Int) < (L.length : Int) := by omega
            go_wp2_with fail
            have HGm : Hid (∀ m, WG w (wr.drewN m) 43 M) := fun m => HG.out.drew m
            go_wp2_with (first
              | (go_at_call 18; refine (HIr.out _ _ (HGm.out _) (by have := HK2.out; first | rfl | omega | (rw [IntKind.wrap_i64]; omega))).mono ?_; rintro e W4 ⟨rfl, g4⟩; have G4 := Hid.mk' g4; clear g4)
              | fail)
            clear HGm
            go_loopw [4] (fun x wr' => ∃ s : Nat, x = .int .i64 (s : Int) ∧ i ≤ s ∧ s ≤ k ∧ Hid (WG w wr' 43 (M ++ (ZZ ++ vs ((L.drop i).take (s - i)))))) (fun x _ => k - (intOf x).toNat)
            case atStart => exact ⟨i, rfl, by omega, by omega, by show WG _ _ _ _; rw [Nat.sub_self, List.take_zero, vs_nil, List.append_nil]; exact G4.out⟩
            case round =>
              clear G4
              obtain ⟨s, rfl, hs1, hs2, HS⟩ := hrel
              by_cases hsk : s < k
              · have hsk' : (s : Int) < (k : Int) := by omega
                have hsl : s < L.length := by omega
                have HUs : Hid (∀ W M, WG w W 43 M → M.length ≤ 211106232533000 → Calls Try.prog 19 #[.pointer (some ⟨w.heap.size, 0, none⟩), .int .u64 ((L.getD s 0 : Nat) : Int)] W fun x w' => x = .returned (.tuple #[]) ∧ WG w w' 43 (M ++ vint (L.getD s 0))) := fun W M hW hM => HU.out W M s hW hM
                obtain ⟨b, off, rfl, c2⟩ := HC.out wr _ s HS.out hsl
                have HUs2 := Hid.mk' (HUs.out wr _ HS.out (HLS'.out (s - i) (by have := HK2.out; omega)))
                have e7 : (L.drop i).take (s - i) ++ [L.getD s 0] = (L.drop i).take (s + 1 - i) := by
                  rw [show s + 1 - i = (s - i) + 1 by omega, List.take_succ_eq_append_getElem (by rw [List.length_drop]; omega)]
                  congr 2
                  rw [List.getD_eq_getElem?_getD, List.getElem?_eq_getElem hsl, List.getElem_drop]
                  simp only [Option.getD_some]
                  congr 1
                  omega
                rw [List.append_assoc, List.append_assoc, ← vs_one (L.getD s 0), ← vs_app, e7] at HUs2
                clear HUs e7 HS
                generalize L.getD s 0 = y at *
                go_wp2_with (first
                  | (go_at_call 19; refine HUs2.out.mono ?_; rintro e W5 ⟨rfl, g5⟩; have G5 := Hid.mk' g5; clear g5)
                  | fail)
                exact ⟨⟨s + 1, by go_num, by omega, by omega, G5⟩, by simp [intOf]; omega⟩
              · obtain rfl : s = k := by omega
                have hsk' : ¬ (s : Int) < (s : Int) := by omega
                have HF : Hid (M ++ (ZZ ++ vs ((L.drop i).take (s - i))) ++ rn (L.drop s) = rn L) := by
                  show _ = _
                  have e1 : s - i = u := by have := HK2.out; omega
                  rw [← HM.out, HR.out, e1, HK2.out]
                  simp
                have hu3 : i < s := by have := HK2.out; omega
                have hu4 : s ≤ L.length := by omega
                clear HK2 HK
                go_wp2
                go_roundw
                case rel => exact ⟨s, _, rfl, hu4, HF, HS⟩
                case measure => simp [intOf]; omega
    · obtain rfl : i = L.length := by omega
      have hlt' : ¬ (L.length : Int) < (L.length : Int) := by omega
      have HM2 : Hid (M = rn L) := by
        show _ = _
        have := HM.out
        rw [List.drop_of_length_le (by omega), rn_nil, List.append_nil] at this
        exact this
      have HD := Hid.mk' (HG.out.xdone (by have := HML.out; omega))
      clear HM HML HG HA HI HU HC
      go_wp2_with (first
        | (go_at_call 20; refine HD.out.mono ?_; rintro e W1 ⟨v, rfl, o1, b1⟩; have O1 := Hid.mk' o1; have B1 := Hid.mk' b1; clear o1 b1)
        | fail)
      go_ret
      exact ⟨v, rfl, by rw [← HM2.out]; exact O1.out, B1.out⟩
end Go.Proofs.Ytphpaaajfcbafaa.K
