import Derived.Test.YtphpaaajfcbafaaDoorPc
namespace Go.Proofs.YtphpaaajfcbafaaDoor.K
open Go.RowKit
set_option linter.unusedVariables false
set_option linter.unusedSimpArgs false

set_option maxRecDepth 100000 in
set_option maxHeartbeats 4000000 in
/-- Runs -/
theorem runs_any (a : Option Addr) (L : List Nat) (n cap : Nat) (w : World) (hn : L.length = n) (hcap : L.length ≤ cap) (h : Nums w a L) (hv : ∀ x ∈ L, x < 18446744073709551616) (hb : L.length ≤ 17592186044416) :
    Calls Tryd.prog 13 #[.slice a n cap] w fun e w' => ∃ v, e = .returned v ∧ OwnB w' w.heap.size v (rn L) ∧ Below w.heap.size w w' := by
  subst hn
  have HT := Hid.mk' (rn_le L hb hv)
  have H0 := Hid.mk' (WG.start w 54)
  have HN := Hid.mk' h
  have HV := Hid.mk' hv
  clear h hv
  go_enter Tryd.func13, Tryd.ntmps13
  go_wp2
  go_loopw [0, 4] (fun x _ wr => ∃ (K : List Nat) (a' : Option Addr) (cp : Nat) (M : List UInt8), x = .slice a' K.length cp ∧ K.length ≤ cp ∧ K.length ≤ 17592186044416 ∧ Hid (Nums w a' K) ∧ Hid (∀ x ∈ K, x < 18446744073709551616) ∧ Hid (M ++ rn K = rn L) ∧ Hid (WG w wr 54 M)) (fun x _ _ => lenOf x)
  case atStart => exact ⟨L, a, cap, [], rfl, hcap, hb, HN, HV, by show _ = _; simp, H0⟩
  case round =>
    clear HN HV H0 hcap hb
    obtain ⟨K, a', cp, M, rfl, hcp, hb, HN, HV, HM, HG⟩ := hrel
    have HML : Hid (M.length + (rn K).length ≤ 211106232533000) := by
      show _ ≤ _
      have := HT.out
      rw [← HM.out, List.length_append] at this
      exact this
    by_cases h0 : 0 < K.length
    · have h0' : 0 < (K.length : Int) := by omega
      obtain ⟨b, off, rfl, hbl, hc⟩ := HN.out.open h0
      have HA := Hid.mk' (alike_any (some ⟨b, off, none⟩) K K.length cp wr rfl (HN.out.below HG.out.below) h0 hb)
      have hal := al_le K
      have hal1 := al_pos K h0
      have HC0 : Hid (∀ W M, WG w W 54 M → W.cell? ⟨b, off, none⟩ = some (.int .u64 ((K.getD 0 0 : Nat) : Int))) := fun W M hW => (hW.below.cell (p := ⟨b, off, none⟩) hbl).trans (hc 0 h0)
      have hx0 : Hid (K.getD 0 0 < 18446744073709551616) := by
        show _ < _
        rw [List.getD_eq_getElem?_getD, List.getElem?_eq_getElem h0]; exact HV.out _ (List.getElem_mem h0)
      by_cases h1 : 1 < al K
      · have h1' : 1 < (al K : Int) := by omega
        obtain ⟨a2, s2, ha2⟩ := from22 b off K.length cp (al K) hal hcp
        have HN2 : Hid (Nums w a2 (K.drop (al K))) := Nums.drop (al K) a2 hc ha2
        have HV2 : Hid (∀ x ∈ K.drop (al K), x < 18446744073709551616) := fun x hx => HV.out x (List.mem_of_mem_drop hx)
        have HM2 : Hid (M ++ vint (zig (al K : Int)) ++ vint (K.getD 0 0) ++ rn (K.drop (al K)) = rn L) := by
          show _ = _
          rw [← HM.out, rn_run K h1]
          simp
        have HL2 : Hid (M.length + (vint (zig (al K : Int))).length + 64 ≤ 225000000000000) := by
          show _ ≤ _
          have := HML.out
          rw [rn_run K h1, List.length_append, List.length_append] at this
          omega
        have HD2 : Hid ((K.drop (al K)).length = K.length - al K) := List.length_drop
        have HI : Hid (∀ m, Calls Tryd.prog 25 #[.pointer (some ⟨w.heap.size, 0, none⟩), .int .i64 (al K : Int)] (wr.drewN m) fun x w' => x = .returned (.tuple #[]) ∧ WG w w' 54 (M ++ vint (zig (al K : Int)))) := fun m => (HG.out.drew m).int _ (by omega) (by omega) (by have := HL2.out; omega)
        have HU : Hid (∀ W, WG w W 54 (M ++ vint (zig (al K : Int))) → Calls Tryd.prog 26 #[.pointer (some ⟨w.heap.size, 0, none⟩), .int .u64 ((K.getD 0 0 : Nat) : Int)] W fun x w' => x = .returned (.tuple #[]) ∧ WG w w' 54 (M ++ vint (zig (al K : Int)) ++ vint (K.getD 0 0))) := fun W hW => hW.uint _ hx0.out (by rw [List.length_append]; exact HL2.out)
        clear HM HN HV HML hc HL2 ha2
        generalize M ++ vint (zig (al K : Int)) = M1 at *
        generalize hM2 : M1 ++ vint (K.getD 0 0) = M2 at *
        generalize K.drop (al K) = K2 at *
        generalize hy : K.getD 0 0 = y at *
        clear hM2 hy hx0
        generalize al K = q at *
        go_wp2_with (first
          | (go_at_call 24; refine HA.out.mono ?_; rintro e W1 ⟨rfl, m1, rfl⟩)
          | (go_at_call 25; refine (HI.out m1).mono ?_; rintro e W2 ⟨rfl, g2⟩; have G2 := Hid.mk' g2; clear g2; have c2 := HC0.out _ _ G2.out)
          | (go_at_call 26; refine (HU.out _ G2.out).mono ?_; rintro e W3 ⟨rfl, g3⟩; have G3 := Hid.mk' g3; clear g3)
          | fail)
        go_roundw
        case rel => exact ⟨K2, a2, _, M2, by rw [HD2.out], by rw [HD2.out]; omega, by rw [HD2.out]; omega, HN2, HV2, HM2, G3⟩
        case measure => simp [lenOf]; omega
      · have h1' : ¬ 1 < (al K : Int) := by omega
        have hne : K ≠ [] := fun e => by rw [e] at h0; simp at h0
        have hu1 := ul_pos K (by omega)
        have hu2 := ul_le K
        have HUl : Hid (∀ m, Calls Tryd.prog 27 #[.slice (some ⟨b, off, none⟩) K.length cp] (wr.drewN m) fun e w' => e = .returned (.int .i64 (ul K : Int)) ∧ ∃ m, w' = wr.drewN m) := fun m => (unlike_any (some ⟨b, off, none⟩) K K.length cp (wr.drewN m) rfl (HN.out.below (HG.out.drew m).below) h0 hb).mono (by
          rintro e w' ⟨rfl, m2, rfl⟩
          exact ⟨rfl, _, World.drewN_drewN _ _ _⟩)
        obtain ⟨a2, s2, ha2⟩ := from22 b off K.length cp (ul K) hu2 hcp
        have s1 := fun W => to22 b off K.length cp (ul K) (by omega) (by omega) W
        have HN2 : Hid (Nums w a2 (K.drop (ul K))) := Nums.drop (ul K) a2 hc ha2
        have HV2 : Hid (∀ x ∈ K.drop (ul K), x < 18446744073709551616) := fun x hx => HV.out x (List.mem_of_mem_drop hx)
        have HM2 : Hid (M ++ (vint (zig (-(ul K : Int))) ++ vs (K.take (ul K))) ++ rn (K.drop (ul K)) = rn L) := by
          show _ = _
          rw [← HM.out, rn_row K hne h1]
          simp
        have hT : (K.take (ul K)).length = ul K := by rw [List.length_take]; omega
        have HD2 : Hid ((K.drop (ul K)).length = K.length - ul K) := List.length_drop
        have HR : Hid (∀ m, Calls Tryd.prog 28 #[.pointer (some ⟨w.heap.size, 0, none⟩), .slice (some ⟨b, off, none⟩) (ul K) cp] (wr.drewN m) fun x w' => x = .returned (.tuple #[]) ∧ WG w w' 54 (M ++ (vint (zig (-(ul K : Int))) ++ vs (K.take (ul K))))) := fun m => by
          have := (HG.out.drew m).row (some ⟨b, off, none⟩) (K.take (ul K)) (ul K) cp hT ((Nums.take (ul K) hc).below (HG.out.drew m).below) (fun ad e => by cases e; exact hbl) (fun x hx => HV.out x (List.mem_of_mem_take hx)) (by omega) (by
            have h3 := HML.out
            rw [rn_row K hne h1, List.length_append, List.length_append] at h3
            omega)
          rw [hT] at this
          exact this
        clear HM HN HV HML hc ha2 hT hx0 HC0
        generalize M ++ (vint (zig (-(ul K : Int))) ++ vs (K.take (ul K))) = M2 at *
        generalize K.drop (ul K) = K2 at *
        generalize ul K = u at *
        generalize al K = q at *
        go_wp2_with (first
          | (go_at_call 24; refine HA.out.mono ?_; rintro e W1 ⟨rfl, m1, rfl⟩)
          | (go_at_call 27; refine (HUl.out m1).mono ?_; rintro e W2 ⟨rfl, m2, rfl⟩)
          | (go_at_call 28; refine (HR.out m2).mono ?_; rintro e W3 ⟨rfl, g3⟩; have G3 := Hid.mk' g3; clear g3)
          | fail)
        go_roundw
        case rel => exact ⟨K2, a2, _, M2, by rw [HD2.out], by rw [HD2.out]; omega, by rw [HD2.out]; omega, HN2, HV2, HM2, G3⟩
        case measure => simp [lenOf]; omega
    · obtain rfl : K = [] := List.eq_nil_of_length_eq_zero (by omega)
      have HM2 : Hid (M = rn L) := by
        show _ = _
        have := HM.out
        rw [rn_nil, List.append_nil] at this
        exact this
      have HD := Hid.mk' (HG.out.done (by have := HML.out; omega))
      clear HM HML HN HV HG
      go_wp2_with (first
        | (go_at_call 29; refine HD.out.mono ?_; rintro e W1 ⟨v, rfl, o1, b1⟩; have O1 := Hid.mk' o1; have B1 := Hid.mk' b1; clear o1 b1)
        | fail)
      go_ret
      exact ⟨v, rfl, by rw [← HM2.out]; exact O1.out, B1.out⟩
end Go.Proofs.YtphpaaajfcbafaaDoor.K
