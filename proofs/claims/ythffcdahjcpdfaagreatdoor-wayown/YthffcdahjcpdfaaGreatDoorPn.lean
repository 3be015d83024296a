import Derived.Test.YthffcdahjcpdfaaGreatDoorPm
namespace Go.Proofs.YthffcdahjcpdfaaGreatDoor
open Go.RowKit
set_option linter.unusedVariables false
set_option linter.unusedSimpArgs false

set_option maxRecDepth 100000 in
set_option maxHeartbeats 8000000 in
theorem read_go (s : ByteArray) (w : World) (hs : s.size ≤ 5000) (h47 : (s.toList == [47]) = false) (hT : K.V.Tabs w) (a0 a1 a2 : Addr) (hE : Snt w a0 a1 a2) :
    Calls Tryz.prog 12 #[.string s] w fun e w' => ∃ v, e = .returned (.tuple #[v, .int .i64 ((rP s (s.size + 1) 0 []).2.1 : Int), erV a2 (rP s (s.size + 1) 0 []).2.2]) ∧ OwnS w' w.heap.size v (rP s (s.size + 1) 0 []).1 ∧ Below w.heap.size w w' := by
  obtain ⟨R, hR⟩ : ∃ R, R = rP s (s.size + 1) 0 [] := ⟨_, rfl⟩
  rw [← hR]
  have HR : Hid (rP s (s.size + 1) 0 [] = R) := hR.symm
  have h5 : ¬ (5000 : Int) < (s.size : Int) := by omega
  have HX : Hid (∀ k, k < s.size → ∀ wx, (Instr.index 9 (.string s) (.int .i64 (k : Int))).run Tryz.prog wx = .ok (.int .u8 (K.V.by8 s k : Int)) wx) := fun k h wx => K.V.index_str s k wx h
  have HG : Hid (∀ wx, Below w.heap.size w wx → wx.cell? ⟨1, 0, none⟩ = some (.iface 189 (.pointer (some a2)))) := fun wx h => (hE.below h).g2
  have HT := Hid.mk' (fun wx (h : Below w.heap.size w wx) => hT.below h)
  have HE := Hid.mk' (fun wx (h : Below w.heap.size w wx) => hE.below h)
  clear hR hT hE
  go_enter Tryz.func12, Tryz.ntmps12
  go_wp2
  refine wp_scope_jumps5 (JJ s w a2 R) (MU s) JJ_lt rfl rfl rfl rfl rfl ?_ ?_ ?_ ?_ ?_ ?_
  · obtain ⟨W0, hW0⟩ : ∃ W, W = w.alloc (.cells zSt.c 54) := ⟨_, rfl⟩
    have g00 := heap_alloc_new w (.cells zSt.c 54)
    rw [← hW0] at g00
    have bw0 : Below w.heap.size w W0 := by rw [hW0]; exact (Below.refl _ _).alloc (Nat.le_refl _) _
    have HRS0 : Hid (RS s w R W0 0 (s.size + 1) [] none 0 0 zSt.c) := ⟨rfl, Nat.zero_le _, by omega, OwnS.nil _ _, rfl, g00, bw0⟩
    have HW0 := Hid.mk' hW0
    clear hW0 g00 bw0
    go_wp2
    go_step3
    first | rw [show w.alloc (.cells #[.int .u8 0, .string ⟨#[]⟩, .int .i64 0] 54) = W0 from HW0.out.symm] | rw [← HW0.out] | skip
    have rs := HRS0.out
    have HFF := HR
    obtain ⟨f', hf'⟩ : ∃ f', f' = s.size := ⟨_, rfl⟩
    rw [← hf'] at rs HFF
    clear HRS0
    have hk := rs.hk
    have hg := HG.out W0 rs.bel
    have RS3 : Hid (RS s w R (((W0.setCell ⟨w.heap.size, 0, none⟩ (.int .u8 0)).setCell ⟨w.heap.size, 1, none⟩ (.string ⟨#[]⟩)).setCell ⟨w.heap.size, 2, none⟩ (.int .i64 0)) 0 (f' + 1) [] none 0 0 zSt.c) := ⟨rs.hn, rs.hk, rs.hf, ownS_set (ownS_set (ownS_set rs.own (by omega)) (by omega)) (by omega), rfl, three_set _ rs.hC _ _ _ rs.box, ((rs.bel.setCell (Nat.le_refl _) _).setCell (Nat.le_refl _) _).setCell (Nat.le_refl _) _⟩
    obtain ⟨x, y, z, hC⟩ := three_cells rs.hC
    have box := rs.box
    rw [hC] at box
    have c0 : W0.cell? ⟨w.heap.size, 0, none⟩ = some x := (cell_of_row _ _ 0 _ _ _ box).trans rfl
    have c1 : W0.cell? ⟨w.heap.size, 1, none⟩ = some y := (cell_of_row _ _ 1 _ _ _ box).trans rfl
    have c2 : W0.cell? ⟨w.heap.size, 2, none⟩ = some z := (cell_of_row _ _ 2 _ _ _ box).trans rfl
    have f0 : W0.frozen? ⟨w.heap.size, 0, none⟩ = false := frozen_of_row W0 _ 0 _ _ box
    have f1 : W0.frozen? ⟨w.heap.size, 1, none⟩ = false := frozen_of_row W0 _ 1 _ _ box
    have f2 : W0.frozen? ⟨w.heap.size, 2, none⟩ = false := frozen_of_row W0 _ 2 _ _ box
    have hg3 := HG.out _ RS3.out.bel
    have HNL := Hid.mk' rs.hn
    clear rs box hC
    by_cases hend : 0 = s.size
    · have HRR : Hid (R = ([], 0, false)) := by show _ = _; rw [← HFF.out]; unfold rP; rw [if_pos (.inl hend)]
      have q1 : ((0 : Int) == (s.size : Int)) = true := beq_iff_eq.2 (by omega)
      clear hend
      go_wp2
      go_quiet (fail)
      go_wp2
      first | go_ret3 | (rw [jumpN_ret]; go_ret3)
      exact ⟨_, by rw [HRR.out]; rfl, by rw [HRR.out]; exact OwnS.nil _ _, below_drewN RS3.out.bel _⟩
    · have q1 : ((0 : Int) == (s.size : Int)) = false := beq_eq_false_iff_ne.2 (by omega)
      have ix : ∀ wx, (Instr.index 9 (.string s) (.int .i64 0)).run Tryz.prog wx = .ok (.int .u8 (K.V.by8 s 0 : Int)) wx := HX.out 0 (by omega)
      by_cases hb : K.V.by8 s 0 = 47
      · rw [hb] at ix
        go_wp2
        go_step3
        show JJ s w a2 R 1 _ _
        unfold JJ
        exact ⟨0, f', [], none, 0, 0, _, _, _, _, _, _, _, _, _, _, _, _, _, _, _, _, _, _, _, _, _, _, _, _, _, _, _, _, _, _, _, _, _, _, _, _, _, _, _, _, _, _, _, _, _, _, _, _, _, _, _, _, _, _, _, _, _, _, _, _, _, _, _, _, _, _, _, _, _, _, _, _, _, _, rfl, RS3.out, by omega, by omega, hb, HFF.out⟩
      · have b1 : ((K.V.by8 s 0 : Int) == 47) = false := beq_eq_false_iff_ne.2 (by omega)
        have nb1 := Hid.mk' hb
        clear hb
        by_cases hb : K.V.by8 s 0 = 91
        · rw [hb] at ix
          go_wp2
          go_step3
          show JJ s w a2 R 2 _ _
          unfold JJ
          exact ⟨0, f', [], none, 0, 0, _, _, _, _, _, _, _, _, _, _, _, _, _, _, _, _, _, _, _, _, _, _, _, _, _, _, _, _, _, _, _, _, _, _, _, _, _, _, _, _, _, _, _, _, _, _, _, _, _, _, _, _, _, _, _, _, _, _, _, _, _, _, _, _, _, _, _, _, _, _, _, _, _, _, rfl, RS3.out, by omega, by omega, hb, HFF.out⟩
        · have b2 : ((K.V.by8 s 0 : Int) == 91) = false := beq_eq_false_iff_ne.2 (by omega)
          have nb2 := Hid.mk' hb
          clear hb
          by_cases hb : K.V.by8 s 0 = 126
          · rw [hb] at ix
            go_wp2
            go_step3
            show JJ s w a2 R 3 _ _
            unfold JJ
            exact ⟨0, f', [], none, 0, 0, _, _, _, _, _, _, _, _, _, _, _, _, _, _, _, _, _, _, _, _, _, _, _, _, _, _, _, _, _, _, _, _, _, _, _, _, _, _, _, _, _, _, _, _, _, _, _, _, _, _, _, _, _, _, _, _, _, _, _, _, _, _, _, _, _, _, _, _, _, _, _, _, _, _, rfl, RS3.out, by omega, by omega, hb, HFF.out⟩
          · have b3 : ((K.V.by8 s 0 : Int) == 126) = false := beq_eq_false_iff_ne.2 (by omega)
            have HRR : Hid (R = ([], 0, false)) := by
              show _ = _
              have h2 : stP s 0 = (zSt, 0, false) := by unfold stP; rw [if_neg nb1.out, if_neg nb2.out, if_neg hb]
              rw [← HFF.out]; unfold rP; rw [if_neg (by simp; omega), h2, if_pos rfl]
            clear hb nb1 nb2
            generalize K.V.by8 s 0 = c at *
            go_wp2
            go_quiet (fail)
            go_wp2
            first | go_ret3 | (rw [jumpN_ret]; go_ret3)
            exact ⟨_, by rw [HRR.out]; rfl, by rw [HRR.out]; exact OwnS.nil _ _, below_drewN RS3.out.bel _⟩
  · rintro a wr ⟨k, f, acc, va, n, vc, C, ev, u6, u7, u8, u9, u10, u11, u12, u13, u14, u15, u16, u17, u18, u19, u20, u21, u22, u23, u24, u25, u26, u27, u28, u29, u30, u31, u32, u33, u34, u35, u36, u37, u38, u39, u40, u41, u42, u43, u44, u45, u46, u47, u48, u49, u50, u51, u52, u53, u54, u55, u56, u57, u58, u59, u60, u61, u62, u63, u64, u65, u66, u67, u68, u69, u70, u71, u72, u73, u74, u75, u76, u77, u78, rfl, rs, hn, HF⟩
    obtain ⟨f', rfl⟩ : ∃ f', f = f' + 1 := ⟨f - 1, by have := rs.hf; have := rs.hk; omega⟩
    have HFF := Hid.mk' HF
    clear HF
    have hk := rs.hk
    have hg := HG.out wr rs.bel
    have RS3 : Hid (RS s w R (((wr.setCell ⟨w.heap.size, 0, none⟩ (.int .u8 0)).setCell ⟨w.heap.size, 1, none⟩ (.string ⟨#[]⟩)).setCell ⟨w.heap.size, 2, none⟩ (.int .i64 0)) k (f' + 1) acc va n vc zSt.c) := ⟨rs.hn, rs.hk, rs.hf, ownS_set (ownS_set (ownS_set rs.own (by omega)) (by omega)) (by omega), rfl, three_set _ rs.hC _ _ _ rs.box, ((rs.bel.setCell (Nat.le_refl _) _).setCell (Nat.le_refl _) _).setCell (Nat.le_refl _) _⟩
    obtain ⟨x, y, z, hC⟩ := three_cells rs.hC
    have box := rs.box
    rw [hC] at box
    have c0 : wr.cell? ⟨w.heap.size, 0, none⟩ = some x := (cell_of_row _ _ 0 _ _ _ box).trans rfl
    have c1 : wr.cell? ⟨w.heap.size, 1, none⟩ = some y := (cell_of_row _ _ 1 _ _ _ box).trans rfl
    have c2 : wr.cell? ⟨w.heap.size, 2, none⟩ = some z := (cell_of_row _ _ 2 _ _ _ box).trans rfl
    have f0 : wr.frozen? ⟨w.heap.size, 0, none⟩ = false := frozen_of_row wr _ 0 _ _ box
    have f1 : wr.frozen? ⟨w.heap.size, 1, none⟩ = false := frozen_of_row wr _ 1 _ _ box
    have f2 : wr.frozen? ⟨w.heap.size, 2, none⟩ = false := frozen_of_row wr _ 2 _ _ box
    have hg3 := HG.out _ RS3.out.bel
    have HNL := Hid.mk' rs.hn
    clear rs box hC
    by_cases hend : k = s.size
    · have HRR : Hid (R = ([], k, false)) := by show _ = _; rw [← HFF.out]; unfold rP; rw [if_pos (.inl hend)]
      have q1 : ((k : Int) == (s.size : Int)) = true := beq_iff_eq.2 (by omega)
      clear hend
      go_wp2
      go_quiet (fail)
      go_wp2
      first | go_ret3 | (rw [jumpN_ret]; go_ret3)
      exact ⟨_, by rw [HRR.out]; rfl, by rw [HRR.out]; exact OwnS.nil _ _, below_drewN RS3.out.bel _⟩
    · have q1 : ((k : Int) == (s.size : Int)) = false := beq_eq_false_iff_ne.2 (by omega)
      by_cases h32 : n = 32
      · have HRR : Hid (R = ([], k, false)) := by show _ = _; rw [← HFF.out]; unfold rP; rw [if_pos (.inr (by rw [HNL.out]; exact h32))]
        have q2 : ((n : Int) == 32) = true := beq_iff_eq.2 (by omega)
        clear h32
        go_wp2
        go_quiet (fail)
        go_wp2
        first | go_ret3 | (rw [jumpN_ret]; go_ret3)
        exact ⟨_, by rw [HRR.out]; rfl, by rw [HRR.out]; exact OwnS.nil _ _, below_drewN RS3.out.bel _⟩
      · have q2 : ((n : Int) == 32) = false := beq_eq_false_iff_ne.2 (by omega)
        have ix := HX.out k (by omega)
        by_cases hb : K.V.by8 s k = 47
        · rw [hb] at ix
          go_wp2
          go_step3
          show JJ s w a2 R 1 _ _ ∧ MU s 1 _ _ < MU s 0 _ _
          refine ⟨?_, ?_⟩
          · unfold JJ
            exact ⟨k, f', acc, va, n, vc, _, _, _, _, _, _, _, _, _, _, _, _, _, _, _, _, _, _, _, _, _, _, _, _, _, _, _, _, _, _, _, _, _, _, _, _, _, _, _, _, _, _, _, _, _, _, _, _, _, _, _, _, _, _, _, _, _, _, _, _, _, _, _, _, _, _, _, _, _, _, _, _, _, _, rfl, RS3.out, by omega, by omega, hb, HFF.out⟩
          · simp [MU, intOf]
        · have b1 : ((K.V.by8 s k : Int) == 47) = false := beq_eq_false_iff_ne.2 (by omega)
          have nb1 := Hid.mk' hb
          clear hb
          by_cases hb : K.V.by8 s k = 91
          · rw [hb] at ix
            go_wp2
            go_step3
            show JJ s w a2 R 2 _ _ ∧ MU s 2 _ _ < MU s 0 _ _
            refine ⟨?_, ?_⟩
            · unfold JJ
              exact ⟨k, f', acc, va, n, vc, _, _, _, _, _, _, _, _, _, _, _, _, _, _, _, _, _, _, _, _, _, _, _, _, _, _, _, _, _, _, _, _, _, _, _, _, _, _, _, _, _, _, _, _, _, _, _, _, _, _, _, _, _, _, _, _, _, _, _, _, _, _, _, _, _, _, _, _, _, _, _, _, _, _, rfl, RS3.out, by omega, by omega, hb, HFF.out⟩
            · simp [MU, intOf]
          · have b2 : ((K.V.by8 s k : Int) == 91) = false := beq_eq_false_iff_ne.2 (by omega)
            have nb2 := Hid.mk' hb
            clear hb
            by_cases hb : K.V.by8 s k = 126
            · rw [hb] at ix
              go_wp2
              go_step3
              show JJ s w a2 R 3 _ _ ∧ MU s 3 _ _ < MU s 0 _ _
              refine ⟨?_, ?_⟩
              · unfold JJ
                exact ⟨k, f', acc, va, n, vc, _, _, _, _, _, _, _, _, _, _, _, _, _, _, _, _, _, _, _, _, _, _, _, _, _, _, _, _, _, _, _, _, _, _, _, _, _, _, _, _, _, _, _, _, _, _, _, _, _, _, _, _, _, _, _, _, _, _, _, _, _, _, _, _, _, _, _, _, _, _, _, _, _, _, rfl, RS3.out, by omega, by omega, hb, HFF.out⟩
              · simp [MU, intOf]
            · have b3 : ((K.V.by8 s k : Int) == 126) = false := beq_eq_false_iff_ne.2 (by omega)
              have HRR : Hid (R = ([], k, false)) := by
                show _ = _
                have h2 : stP s k = (zSt, k, false) := by unfold stP; rw [if_neg nb1.out, if_neg nb2.out, if_neg hb]
                rw [← HFF.out]; unfold rP; rw [if_neg (by rw [HNL.out]; omega), h2, if_pos rfl]
              clear hb nb1 nb2
              generalize K.V.by8 s k = c at *
              go_wp2
              go_quiet (fail)
              go_wp2
              first | go_ret3 | (rw [jumpN_ret]; go_ret3)
              exact ⟨_, by rw [HRR.out]; rfl, by rw [HRR.out]; exact OwnS.nil _ _, below_drewN RS3.out.bel _⟩
  · rintro a wr ⟨k, f, acc, va, n, vc, ev, u6, u7, u8, u9, u10, u11, u12, u13, u14, u15, u16, u17, u18, u19, u20, u21, u22, u23, u24, u25, u26, u27, u28, u29, u30, u31, u32, u33, u34, u35, u36, u37, u38, u39, u40, u41, u42, u43, u44, u45, u46, u47, u48, u49, u50, u51, u52, u53, u54, u55, u56, u57, u58, u59, u60, u61, u62, u63, u64, u65, u66, u67, u68, u69, u70, u71, u72, u73, u74, u75, u76, u77, u78, rfl, rs, hn, hks, hb, HF⟩
    have HBX := Hid.mk' rs.box
    have box := rs.box
    have c0 : wr.cell? ⟨w.heap.size, 0, none⟩ = some (.int .u8 0) := (cell_of_row _ _ 0 _ _ _ box).trans rfl
    have c1 : wr.cell? ⟨w.heap.size, 1, none⟩ = some (.string ⟨#[]⟩) := (cell_of_row _ _ 1 _ _ _ box).trans rfl
    have c2 : wr.cell? ⟨w.heap.size, 2, none⟩ = some (.int .i64 0) := (cell_of_row _ _ 2 _ _ _ box).trans rfl
    have f0 : wr.frozen? ⟨w.heap.size, 0, none⟩ = false := frozen_of_row wr _ 0 _ _ box
    obtain ⟨W1, hW1⟩ : ∃ W, W = (wr.setCell ⟨w.heap.size, 0, none⟩ (.int .u8 1)) := ⟨_, rfl⟩
    have bx1 : W1.heap[w.heap.size]? = some (.cells #[.int .u8 1, .string ⟨#[]⟩, .int .i64 0] 54 (0, 0)) := by rw [hW1]; exact heap_setCell_same wr w.heap.size 0 _ _ _ box
    have bel1 : Below w.heap.size w W1 := by rw [hW1]; exact rs.bel.setCell (Nat.le_refl _) _
    have ow1 : OwnS W1 (w.heap.size + 1) (.slice va n vc) acc := by rw [hW1]; exact ownS_set rs.own (by omega)
    have hk := rs.hk
    have hf := rs.hf
    have HCL := Hid.mk' (rkey2_any s (k + 1) W1 (by omega) hs (HT.out W1 bel1) a0 a1 a2 (HE.out W1 bel1))
    have e1 : ((k + 1 : Nat) : Int) = (k : Int) + 1 := by omega
    rw [e1] at HCL
    have hle := kyP_le s (k + 1) (by omega) (ub_of _ W1 (by rw [Lib.ext_size]; omega) (HT.out W1 bel1))
    have HST : Hid (stP s k = (⟨1, (kyP s (k + 1)).1, 0⟩, (kyP s (k + 1)).2.1, (kyP s (k + 1)).2.2)) := by show _ = _; unfold stP; rw [if_pos hb]
    have HLN := Hid.mk' rs.hn
    generalize kyP s (k + 1) = U at *
    obtain ⟨xv, m, ok⟩ := U
    simp only [] at HCL hle HST
    have HAFT : Hid (∀ w2, Below W1.heap.size W1 w2 → RS s w R (w2.setCell ⟨w.heap.size, 1, none⟩ (.string xv)) m f acc va n vc (St.c ⟨1, xv, 0⟩)) := fun w2 hb2 => by
      have bx2 : w2.heap[w.heap.size]? = some (.cells #[.int .u8 1, .string ⟨#[]⟩, .int .i64 0] 54 (0, 0)) := by rw [hb2.block _ (Array.getElem?_eq_some_iff.1 bx1).1]; exact bx1
      exact ⟨HLN.out, by omega, by omega, ownS_set (ow1.below hb2) (by omega), rfl, heap_setCell_same w2 w.heap.size 1 _ _ _ bx2, (bel1.trans (hb2.mono bel1.size)).setCell (Nat.le_refl _) _⟩
    have HCE : Hid (∀ w2, Below W1.heap.size W1 w2 → w2.cell? ⟨w.heap.size, 1, none⟩ = some (.string ⟨#[]⟩) ∧ w2.frozen? ⟨w.heap.size, 1, none⟩ = false) := fun w2 hb2 => by
      have bx2 : w2.heap[w.heap.size]? = some (.cells #[.int .u8 1, .string ⟨#[]⟩, .int .i64 0] 54 (0, 0)) := by rw [hb2.block _ (Array.getElem?_eq_some_iff.1 bx1).1]; exact bx1
      exact ⟨(cell_of_row _ _ 1 _ _ _ bx2).trans rfl, frozen_of_row w2 _ 1 _ _ bx2⟩
    have HC1 : Hid ((ok = false → R = ([], m, false)) ∧ (ok = true → m < s.size → rP s f m (acc ++ [⟨1, xv, 0⟩]) = R) ∧ (ok = true → ¬ m < s.size → R = (acc ++ [⟨1, xv, 0⟩], m, true))) := by
      have hne : ¬ (k = s.size ∨ acc.length = 32) := by rw [HLN.out]; omega
      have hr := HF
      rw [rP, if_neg hne, HST.out] at hr
      refine ⟨fun h => ?_, fun h h2 => ?_, fun h h2 => ?_⟩
      · rw [if_pos h] at hr; exact hr.symm
      · rw [if_neg (by simp [h]), if_pos h2] at hr; exact hr
      · rw [if_neg (by simp [h]), if_neg h2] at hr; exact hr.symm
    have HW1 := Hid.mk' hW1
    clear rs HF bx1 bel1 ow1 hW1 box HBX HST
    generalize hev : erV a2 ok = EV at *
    have HEV := Hid.mk' hev
    clear hev
    go_wp2_with fail
    first
      | (rw [← HW1.out]
         refine HCL.out.mono ?_
         rintro e w2 ⟨rfl, b2⟩
         obtain ⟨d1, d2⟩ := HCE.out w2 b2
         have HB2 := Hid.mk' b2
         clear HCL HCE b2
         go_wp2
         go_step3)
      | (go_region_with (go_at_call 37; first | rw [← HW1.out] | skip; refine HCL.out.mono ?_; rintro e w2 ⟨rfl, b2⟩; obtain ⟨d1, d2⟩ := HCE.out w2 b2; have HB2 := Hid.mk' b2; clear b2)
         all_goals go_wp2
         all_goals go_step3)
    all_goals (show JJ s w a2 R 4 _ _ ∧ MU s 4 _ _ < MU s 1 _ _)
    all_goals refine ⟨?_, ?_⟩
    all_goals first
      | (simp [MU, intOf]; omega)
      | (unfold JJ
         rw [← HEV.out]
         exact ⟨m, f, acc, va, n, vc, ⟨1, xv, 0⟩, ok, _, _, _, _, _, _, _, _, _, _, _, _, _, _, _, _, _, _, _, _, _, _, _, _, _, _, _, _, _, _, _, _, _, _, _, _, _, _, _, _, _, _, _, _, _, _, _, _, _, _, _, _, _, _, _, _, _, _, _, _, _, _, _, _, _, _, _, _, _, _, _, _, _, rfl, HAFT.out _ HB2.out, hn, HC1.out.1, HC1.out.2.1, HC1.out.2.2⟩)
  · rintro a wr ⟨k, f, acc, va, n, vc, ev, u6, u7, u8, u9, u10, u11, u12, u13, u14, u15, u16, u17, u18, u19, u20, u21, u22, u23, u24, u25, u26, u27, u28, u29, u30, u31, u32, u33, u34, u35, u36, u37, u38, u39, u40, u41, u42, u43, u44, u45, u46, u47, u48, u49, u50, u51, u52, u53, u54, u55, u56, u57, u58, u59, u60, u61, u62, u63, u64, u65, u66, u67, u68, u69, u70, u71, u72, u73, u74, u75, u76, u77, u78, rfl, rs, hn, hks, hb, HF⟩
    have HBX := Hid.mk' rs.box
    have box := rs.box
    have c0 : wr.cell? ⟨w.heap.size, 0, none⟩ = some (.int .u8 0) := (cell_of_row _ _ 0 _ _ _ box).trans rfl
    have c1 : wr.cell? ⟨w.heap.size, 1, none⟩ = some (.string ⟨#[]⟩) := (cell_of_row _ _ 1 _ _ _ box).trans rfl
    have c2 : wr.cell? ⟨w.heap.size, 2, none⟩ = some (.int .i64 0) := (cell_of_row _ _ 2 _ _ _ box).trans rfl
    have f0 : wr.frozen? ⟨w.heap.size, 0, none⟩ = false := frozen_of_row wr _ 0 _ _ box
    obtain ⟨W1, hW1⟩ : ∃ W, W = (wr.setCell ⟨w.heap.size, 0, none⟩ (.int .u8 2)) := ⟨_, rfl⟩
    have bx1 : W1.heap[w.heap.size]? = some (.cells #[.int .u8 2, .string ⟨#[]⟩, .int .i64 0] 54 (0, 0)) := by rw [hW1]; exact heap_setCell_same wr w.heap.size 0 _ _ _ box
    have bel1 : Below w.heap.size w W1 := by rw [hW1]; exact rs.bel.setCell (Nat.le_refl _) _
    have ow1 : OwnS W1 (w.heap.size + 1) (.slice va n vc) acc := by rw [hW1]; exact ownS_set rs.own (by omega)
    have hk := rs.hk
    have hf := rs.hf
    have HCL := Hid.mk' (rindex_any s (k + 1) W1 (by omega) hs  a0 a1 a2 (HE.out W1 bel1))
    have e1 : ((k + 1 : Nat) : Int) = (k : Int) + 1 := by omega
    rw [e1] at HCL
    have hle := ixP_le s (k + 1) (by omega)
    have HST : Hid (stP s k = (⟨2, ⟨#[]⟩, ((ixP s (k + 1)).1 : Int)⟩, (ixP s (k + 1)).2.1, (ixP s (k + 1)).2.2)) := by show _ = _; unfold stP; rw [if_neg (by omega), if_pos hb]
    have HLN := Hid.mk' rs.hn
    generalize ixP s (k + 1) = U at *
    obtain ⟨xv, m, ok⟩ := U
    simp only [] at HCL hle HST
    have HAFT : Hid (∀ w2, Below W1.heap.size W1 w2 → RS s w R (w2.setCell ⟨w.heap.size, 2, none⟩ (.int .i64 (xv : Int))) m f acc va n vc (St.c ⟨2, ⟨#[]⟩, (xv : Int)⟩)) := fun w2 hb2 => by
      have bx2 : w2.heap[w.heap.size]? = some (.cells #[.int .u8 2, .string ⟨#[]⟩, .int .i64 0] 54 (0, 0)) := by rw [hb2.block _ (Array.getElem?_eq_some_iff.1 bx1).1]; exact bx1
      exact ⟨HLN.out, by omega, by omega, ownS_set (ow1.below hb2) (by omega), rfl, heap_setCell_same w2 w.heap.size 2 _ _ _ bx2, (bel1.trans (hb2.mono bel1.size)).setCell (Nat.le_refl _) _⟩
    have HCE : Hid (∀ w2, Below W1.heap.size W1 w2 → w2.cell? ⟨w.heap.size, 2, none⟩ = some (.int .i64 0) ∧ w2.frozen? ⟨w.heap.size, 2, none⟩ = false) := fun w2 hb2 => by
      have bx2 : w2.heap[w.heap.size]? = some (.cells #[.int .u8 2, .string ⟨#[]⟩, .int .i64 0] 54 (0, 0)) := by rw [hb2.block _ (Array.getElem?_eq_some_iff.1 bx1).1]; exact bx1
      exact ⟨(cell_of_row _ _ 2 _ _ _ bx2).trans rfl, frozen_of_row w2 _ 2 _ _ bx2⟩
    have HC1 : Hid ((ok = false → R = ([], m, false)) ∧ (ok = true → m < s.size → rP s f m (acc ++ [⟨2, ⟨#[]⟩, (xv : Int)⟩]) = R) ∧ (ok = true → ¬ m < s.size → R = (acc ++ [⟨2, ⟨#[]⟩, (xv : Int)⟩], m, true))) := by
      have hne : ¬ (k = s.size ∨ acc.length = 32) := by rw [HLN.out]; omega
      have hr := HF
      rw [rP, if_neg hne, HST.out] at hr
      refine ⟨fun h => ?_, fun h h2 => ?_, fun h h2 => ?_⟩
      · rw [if_pos h] at hr; exact hr.symm
      · rw [if_neg (by simp [h]), if_pos h2] at hr; exact hr
      · rw [if_neg (by simp [h]), if_neg h2] at hr; exact hr.symm
    have HW1 := Hid.mk' hW1
    clear rs HF bx1 bel1 ow1 hW1 box HBX HST
    generalize hev : erV a2 ok = EV at *
    have HEV := Hid.mk' hev
    clear hev
    go_wp2_with fail
    first
      | (rw [← HW1.out]
         refine HCL.out.mono ?_
         rintro e w2 ⟨rfl, b2⟩
         obtain ⟨d1, d2⟩ := HCE.out w2 b2
         have HB2 := Hid.mk' b2
         clear HCL HCE b2
         go_wp2
         go_step3)
      | (go_region_with (go_at_call 38; first | rw [← HW1.out] | skip; refine HCL.out.mono ?_; rintro e w2 ⟨rfl, b2⟩; obtain ⟨d1, d2⟩ := HCE.out w2 b2; have HB2 := Hid.mk' b2; clear b2)
         all_goals go_wp2
         all_goals go_step3)
    all_goals (show JJ s w a2 R 4 _ _ ∧ MU s 4 _ _ < MU s 2 _ _)
    all_goals refine ⟨?_, ?_⟩
    all_goals first
      | (simp [MU, intOf]; omega)
      | (unfold JJ
         rw [← HEV.out]
         exact ⟨m, f, acc, va, n, vc, ⟨2, ⟨#[]⟩, (xv : Int)⟩, ok, _, _, _, _, _, _, _, _, _, _, _, _, _, _, _, _, _, _, _, _, _, _, _, _, _, _, _, _, _, _, _, _, _, _, _, _, _, _, _, _, _, _, _, _, _, _, _, _, _, _, _, _, _, _, _, _, _, _, _, _, _, _, _, _, _, _, _, _, _, _, _, _, _, rfl, HAFT.out _ HB2.out, hn, HC1.out.1, HC1.out.2.1, HC1.out.2.2⟩)
  · rintro a wr ⟨k, f, acc, va, n, vc, ev, u6, u7, u8, u9, u10, u11, u12, u13, u14, u15, u16, u17, u18, u19, u20, u21, u22, u23, u24, u25, u26, u27, u28, u29, u30, u31, u32, u33, u34, u35, u36, u37, u38, u39, u40, u41, u42, u43, u44, u45, u46, u47, u48, u49, u50, u51, u52, u53, u54, u55, u56, u57, u58, u59, u60, u61, u62, u63, u64, u65, u66, u67, u68, u69, u70, u71, u72, u73, u74, u75, u76, u77, u78, rfl, rs, hn, hks, hb, HF⟩
    have HBX := Hid.mk' rs.box
    have box := rs.box
    have c0 : wr.cell? ⟨w.heap.size, 0, none⟩ = some (.int .u8 0) := (cell_of_row _ _ 0 _ _ _ box).trans rfl
    have c1 : wr.cell? ⟨w.heap.size, 1, none⟩ = some (.string ⟨#[]⟩) := (cell_of_row _ _ 1 _ _ _ box).trans rfl
    have c2 : wr.cell? ⟨w.heap.size, 2, none⟩ = some (.int .i64 0) := (cell_of_row _ _ 2 _ _ _ box).trans rfl
    have f0 : wr.frozen? ⟨w.heap.size, 0, none⟩ = false := frozen_of_row wr _ 0 _ _ box
    obtain ⟨W1, hW1⟩ : ∃ W, W = (wr.setCell ⟨w.heap.size, 0, none⟩ (.int .u8 3)) := ⟨_, rfl⟩
    have bx1 : W1.heap[w.heap.size]? = some (.cells #[.int .u8 3, .string ⟨#[]⟩, .int .i64 0] 54 (0, 0)) := by rw [hW1]; exact heap_setCell_same wr w.heap.size 0 _ _ _ box
    have bel1 : Below w.heap.size w W1 := by rw [hW1]; exact rs.bel.setCell (Nat.le_refl _) _
    have ow1 : OwnS W1 (w.heap.size + 1) (.slice va n vc) acc := by rw [hW1]; exact ownS_set rs.own (by omega)
    have hk := rs.hk
    have hf := rs.hf
    have HCL := Hid.mk' (rnum_any s (k + 1) W1 (by omega) hs  a0 a1 a2 (HE.out W1 bel1))
    have e1 : ((k + 1 : Nat) : Int) = (k : Int) + 1 := by omega
    rw [e1] at HCL
    have hle := nuP_le s (k + 1) (by omega)
    have HST : Hid (stP s k = (⟨3, ⟨#[]⟩, ((numP s (k + 1) (s.size - (k + 1)) (k + 1) 0).1 : Int)⟩, (numP s (k + 1) (s.size - (k + 1)) (k + 1) 0).2.1, (numP s (k + 1) (s.size - (k + 1)) (k + 1) 0).2.2)) := by show _ = _; unfold stP; rw [if_neg (by omega), if_neg (by omega), if_pos hb]
    have HLN := Hid.mk' rs.hn
    generalize numP s (k + 1) (s.size - (k + 1)) (k + 1) 0 = U at *
    obtain ⟨xv, m, ok⟩ := U
    simp only [] at HCL hle HST
    have HAFT : Hid (∀ w2, Below W1.heap.size W1 w2 → RS s w R (w2.setCell ⟨w.heap.size, 2, none⟩ (.int .i64 (xv : Int))) m f acc va n vc (St.c ⟨3, ⟨#[]⟩, (xv : Int)⟩)) := fun w2 hb2 => by
      have bx2 : w2.heap[w.heap.size]? = some (.cells #[.int .u8 3, .string ⟨#[]⟩, .int .i64 0] 54 (0, 0)) := by rw [hb2.block _ (Array.getElem?_eq_some_iff.1 bx1).1]; exact bx1
      exact ⟨HLN.out, by omega, by omega, ownS_set (ow1.below hb2) (by omega), rfl, heap_setCell_same w2 w.heap.size 2 _ _ _ bx2, (bel1.trans (hb2.mono bel1.size)).setCell (Nat.le_refl _) _⟩
    have HCE : Hid (∀ w2, Below W1.heap.size W1 w2 → w2.cell? ⟨w.heap.size, 2, none⟩ = some (.int .i64 0) ∧ w2.frozen? ⟨w.heap.size, 2, none⟩ = false) := fun w2 hb2 => by
      have bx2 : w2.heap[w.heap.size]? = some (.cells #[.int .u8 3, .string ⟨#[]⟩, .int .i64 0] 54 (0, 0)) := by rw [hb2.block _ (Array.getElem?_eq_some_iff.1 bx1).1]; exact bx1
      exact ⟨(cell_of_row _ _ 2 _ _ _ bx2).trans rfl, frozen_of_row w2 _ 2 _ _ bx2⟩
    have HC1 : Hid ((ok = false → R = ([], m, false)) ∧ (ok = true → m < s.size → rP s f m (acc ++ [⟨3, ⟨#[]⟩, (xv : Int)⟩]) = R) ∧ (ok = true → ¬ m < s.size → R = (acc ++ [⟨3, ⟨#[]⟩, (xv : Int)⟩], m, true))) := by
      have hne : ¬ (k = s.size ∨ acc.length = 32) := by rw [HLN.out]; omega
      have hr := HF
      rw [rP, if_neg hne, HST.out] at hr
      refine ⟨fun h => ?_, fun h h2 => ?_, fun h h2 => ?_⟩
      · rw [if_pos h] at hr; exact hr.symm
      · rw [if_neg (by simp [h]), if_pos h2] at hr; exact hr
      · rw [if_neg (by simp [h]), if_neg h2] at hr; exact hr.symm
    have HW1 := Hid.mk' hW1
    clear rs HF bx1 bel1 ow1 hW1 box HBX HST
    generalize hev : erV a2 ok = EV at *
    have HEV := Hid.mk' hev
    clear hev
    go_wp2_with fail
    first
      | (rw [← HW1.out]
         refine HCL.out.mono ?_
         rintro e w2 ⟨rfl, b2⟩
         obtain ⟨d1, d2⟩ := HCE.out w2 b2
         have HB2 := Hid.mk' b2
         clear HCL HCE b2
         go_wp2
         go_step3)
      | (go_region_with (go_at_call 39; first | rw [← HW1.out] | skip; refine HCL.out.mono ?_; rintro e w2 ⟨rfl, b2⟩; obtain ⟨d1, d2⟩ := HCE.out w2 b2; have HB2 := Hid.mk' b2; clear b2)
         all_goals go_wp2
         all_goals go_step3)
    all_goals
      obtain ⟨W5, hW5⟩ : ∃ W, W = w2.setCell ⟨w.heap.size, 2, none⟩ (.int .i64 (xv : Int)) := ⟨_, rfl⟩
      obtain ⟨pp, hpp⟩ : ∃ q : St, q = ⟨3, ⟨#[]⟩, (xv : Int)⟩ := ⟨_, rfl⟩
      have rs : RS s w R W5 m f acc va n vc (St.c pp) := by rw [hW5, hpp]; exact HAFT.out _ HB2.out
      obtain ⟨h1, h2, h3⟩ := HC1.out
      rw [← hpp] at h2 h3
      rw [← hW5, ← HEV.out]
      clear HAFT HC1 hW5 hpp HEV HB2
      cases ok with
      | false =>
        have HRR := Hid.mk' (h1 rfl)
        have BW := Hid.mk' rs.bel
        have hk := rs.hk
        clear rs h1 h2 h3
        unfold erV
        simp only [Bool.false_eq_true, if_false]
        go_wp2
        first | go_ret3 | (rw [jumpN_ret]; go_ret3)
        exact ⟨_, by rw [HRR.out]; rfl, by rw [HRR.out]; exact OwnS.nil _ _, BW.out⟩
      | true =>
        unfold erV
        simp only [if_true]
        have H2 := Hid.mk' (h2 rfl)
        have H3 := Hid.mk' (h3 rfl)
        have hk := rs.hk
        have HF5 := Hid.mk' rs.hf
        have HLN := Hid.mk' rs.hn
        have box := rs.box
        obtain ⟨pk, ps, pn⟩ := pp
        have c0 : W5.cell? ⟨w.heap.size, 0, none⟩ = some (.int .u8 pk) := (cell_of_row _ _ 0 _ _ _ box).trans rfl
        have c1 : W5.cell? ⟨w.heap.size, 1, none⟩ = some (.string ps) := (cell_of_row _ _ 1 _ _ _ box).trans rfl
        have c2 : W5.cell? ⟨w.heap.size, 2, none⟩ = some (.int .i64 pn) := (cell_of_row _ _ 2 _ _ _ box).trans rfl
        have hB : w.heap.size < W5.heap.size := (Array.getElem?_eq_some_iff.1 box).1
        obtain ⟨W2, hW2⟩ : ∃ W2, W2 = W5.alloc (.cells (St.c ⟨pk, ps, pn⟩) 54) := ⟨_, rfl⟩
        have be2 : Below W5.heap.size W5 W2 := by rw [hW2]; exact (Below.refl _ _).alloc (Nat.le_refl _) _
        have z2 : W2.heap.size = W5.heap.size + 1 := by rw [hW2]; simp
        have O2 : Hid (OwnS W2 (w.heap.size + 1) (.slice va n vc) acc) := rs.own.below be2
        have M2 : Hid (Sts W2 (some ⟨W5.heap.size, 0, none⟩) [⟨pk, ps, pn⟩]) := by show Sts _ _ _; rw [hW2]; exact sts_lit W5 ⟨pk, ps, pn⟩
        have S2 : Hid (acc.length + ([⟨pk, ps, pn⟩] : List St).length ≤ 4398046510976 + 1) := by show _ ≤ _; rw [HLN.out]; simp; omega
        have B2 : Hid (w.heap.size + 1 ≤ W2.heap.size) := by show _ ≤ _; omega
        have BW2 : Hid (Below w.heap.size w W2) := rs.bel.trans (be2.mono (by omega))
        have HBX : Hid (∀ w3, W2.grownBy w3 (Value.slice va n vc).ownBlock → w3.heap[w.heap.size]? = some (.cells (St.c ⟨pk, ps, pn⟩) 54 (0, 0))) := fun w3 gr => by
          rw [gr.block w.heap.size (by omega) (fun e => by have := (World.ownsRow.lt O2.out _ e.symm).1; omega), be2.block _ hB]
          exact box
        have HW2 := Hid.mk' hW2
        clear rs h1 h2 h3 box hW2 be2 z2 hB
        go_wp2_with (first
          | (refine wpList_bs1 rfl (.tmp 70) rfl (St.c ⟨pk, ps, pn⟩) rfl rfl ?_; rw [← HW2.out])
          | (at_builtin; refine wpList_appS rfl (.tmp 69) (.tmp 71) rfl (w.heap.size + 1) (.slice va n vc) acc rfl O2.out (some ⟨W5.heap.size, 0, none⟩) 1 1 [⟨pk, ps, pn⟩] rfl rfl M2.out (fun h => by cases h) S2.out B2.out ?_)
          | fail)
        intro v3 w3 own3 gr3
        have be3 : Below w.heap.size w w3 := BW2.out.grown gr3 (by have := B2.out; omega) (fun m hk => by have := (World.ownsRow.lt O2.out m hk).1; omega)
        have bx3 := HBX.out w3 gr3
        obtain ⟨va3, vc3, rfl, _, _⟩ := own3.slice
        have hl : (acc ++ [(⟨pk, ps, pn⟩ : St)]).length = n + 1 := by rw [List.length_append, HLN.out]; rfl
        rw [hl] at own3 ⊢
        have RS4 : Hid (RS s w R w3 m f (acc ++ [⟨pk, ps, pn⟩]) va3 (n + 1) vc3 (St.c ⟨pk, ps, pn⟩)) := ⟨hl, hk, HF5.out, own3, rfl, bx3, be3⟩
        have OW0 : Hid (OwnS w3 w.heap.size (.slice va3 (n + 1) vc3) (acc ++ [⟨pk, ps, pn⟩])) := by
          refine ⟨own3.1, ?_⟩
          rcases own3.2 with hn | ⟨g, cap, cur, e, hbg, rest⟩
          · exact .inl hn
          · exact .inr ⟨g, cap, cur, e, by omega, rest⟩
        have BW3 := Hid.mk' be3
        clear own3 gr3 be3 bx3 hl O2 M2 S2 B2 BW2 HBX HW2 HLN HF5 c0 c1 c2
        by_cases hks : m < s.size
        · have hks' : (m : Int) < (s.size : Int) := by omega
          go_wp2
          go_step3
          show JJ s w a2 R 0 _ _ ∧ MU s 0 _ _ < MU s 3 _ _
          refine ⟨?_, ?_⟩
          · unfold JJ
            exact ⟨m, f, acc ++ [⟨pk, ps, pn⟩], va3, n + 1, vc3, _, _, _, _, _, _, _, _, _, _, _, _, _, _, _, _, _, _, _, _, _, _, _, _, _, _, _, _, _, _, _, _, _, _, _, _, _, _, _, _, _, _, _, _, _, _, _, _, _, _, _, _, _, _, _, _, _, _, _, _, _, _, _, _, _, _, _, _, _, _, _, _, _, _, _, rfl, RS4.out, by omega, H2.out hks⟩
          · simp [MU, intOf]; omega
        · have hks' : ¬ (m : Int) < (s.size : Int) := by omega
          have HRR := Hid.mk' (H3.out hks)
          go_wp2
          first | go_ret3 | (rw [jumpN_ret]; go_ret3)
          exact ⟨_, by rw [HRR.out]; rfl, by rw [HRR.out]; exact OW0.out, BW3.out⟩
  · rintro a wr ⟨k, f, acc, va, n, vc, p, ok, u6, u7, u8, u9, u10, u11, u12, u13, u14, u15, u16, u17, u18, u19, u20, u21, u22, u23, u24, u25, u26, u27, u28, u29, u30, u31, u32, u33, u34, u35, u36, u37, u38, u39, u40, u41, u42, u43, u44, u45, u46, u47, u48, u49, u50, u51, u52, u53, u54, u55, u56, u57, u58, u59, u60, u61, u62, u63, u64, u65, u66, u67, u68, u69, u70, u71, u72, u73, u74, u75, u76, u77, u78, rfl, rs, hn, h1, h2, h3⟩
    cases ok with
    | false =>
      have HRR := Hid.mk' (h1 rfl)
      have BW := Hid.mk' rs.bel
      have hk := rs.hk
      clear rs h1 h2 h3
      unfold erV
      simp only [Bool.false_eq_true, if_false]
      go_wp2
      first | go_ret3 | (rw [jumpN_ret]; go_ret3)
      exact ⟨_, by rw [HRR.out]; rfl, by rw [HRR.out]; exact OwnS.nil _ _, BW.out⟩
    | true =>
      unfold erV
      simp only [if_true]
      have H2 := Hid.mk' (h2 rfl)
      have H3 := Hid.mk' (h3 rfl)
      have hk := rs.hk
      have HF5 := Hid.mk' rs.hf
      have HLN := Hid.mk' rs.hn
      have box := rs.box
      obtain ⟨pk, ps, pn⟩ := p
      have c0 : wr.cell? ⟨w.heap.size, 0, none⟩ = some (.int .u8 pk) := (cell_of_row _ _ 0 _ _ _ box).trans rfl
      have c1 : wr.cell? ⟨w.heap.size, 1, none⟩ = some (.string ps) := (cell_of_row _ _ 1 _ _ _ box).trans rfl
      have c2 : wr.cell? ⟨w.heap.size, 2, none⟩ = some (.int .i64 pn) := (cell_of_row _ _ 2 _ _ _ box).trans rfl
      have hB : w.heap.size < wr.heap.size := (Array.getElem?_eq_some_iff.1 box).1
      obtain ⟨W2, hW2⟩ : ∃ W2, W2 = wr.alloc (.cells (St.c ⟨pk, ps, pn⟩) 54) := ⟨_, rfl⟩
      have be2 : Below wr.heap.size wr W2 := by rw [hW2]; exact (Below.refl _ _).alloc (Nat.le_refl _) _
      have z2 : W2.heap.size = wr.heap.size + 1 := by rw [hW2]; simp
      have O2 : Hid (OwnS W2 (w.heap.size + 1) (.slice va n vc) acc) := rs.own.below be2
      have M2 : Hid (Sts W2 (some ⟨wr.heap.size, 0, none⟩) [⟨pk, ps, pn⟩]) := by show Sts _ _ _; rw [hW2]; exact sts_lit wr ⟨pk, ps, pn⟩
      have S2 : Hid (acc.length + ([⟨pk, ps, pn⟩] : List St).length ≤ 4398046510976 + 1) := by show _ ≤ _; rw [HLN.out]; simp; omega
      have B2 : Hid (w.heap.size + 1 ≤ W2.heap.size) := by show _ ≤ _; omega
      have BW2 : Hid (Below w.heap.size w W2) := rs.bel.trans (be2.mono (by omega))
      have HBX : Hid (∀ w3, W2.grownBy w3 (Value.slice va n vc).ownBlock → w3.heap[w.heap.size]? = some (.cells (St.c ⟨pk, ps, pn⟩) 54 (0, 0))) := fun w3 gr => by
        rw [gr.block w.heap.size (by omega) (fun e => by have := (World.ownsRow.lt O2.out _ e.symm).1; omega), be2.block _ hB]
        exact box
      have HW2 := Hid.mk' hW2
      clear rs h1 h2 h3 box hW2 be2 z2 hB
      go_wp2_with (first
        | (refine wpList_bs1 rfl (.tmp 70) rfl (St.c ⟨pk, ps, pn⟩) rfl rfl ?_; rw [← HW2.out])
        | (at_builtin; refine wpList_appS rfl (.tmp 69) (.tmp 71) rfl (w.heap.size + 1) (.slice va n vc) acc rfl O2.out (some ⟨wr.heap.size, 0, none⟩) 1 1 [⟨pk, ps, pn⟩] rfl rfl M2.out (fun h => by cases h) S2.out B2.out ?_)
        | fail)
      intro v3 w3 own3 gr3
      have be3 : Below w.heap.size w w3 := BW2.out.grown gr3 (by have := B2.out; omega) (fun k hk => by have := (World.ownsRow.lt O2.out k hk).1; omega)
      have bx3 := HBX.out w3 gr3
      obtain ⟨va3, vc3, rfl, _, _⟩ := own3.slice
      have hl : (acc ++ [(⟨pk, ps, pn⟩ : St)]).length = n + 1 := by rw [List.length_append, HLN.out]; rfl
      rw [hl] at own3 ⊢
      have RS4 : Hid (RS s w R w3 k f (acc ++ [⟨pk, ps, pn⟩]) va3 (n + 1) vc3 (St.c ⟨pk, ps, pn⟩)) := ⟨hl, hk, HF5.out, own3, rfl, bx3, be3⟩
      have OW0 : Hid (OwnS w3 w.heap.size (.slice va3 (n + 1) vc3) (acc ++ [⟨pk, ps, pn⟩])) := by
        refine ⟨own3.1, ?_⟩
        rcases own3.2 with hn | ⟨g, cap, cur, e, hbg, rest⟩
        · exact .inl hn
        · exact .inr ⟨g, cap, cur, e, by omega, rest⟩
      have BW3 := Hid.mk' be3
      clear own3 gr3 be3 bx3 hl O2 M2 S2 B2 BW2 HBX HW2 HLN HF5 c0 c1 c2
      by_cases hks : k < s.size
      · have hks' : (k : Int) < (s.size : Int) := by omega
        go_wp2
        go_step3
        show JJ s w a2 R 0 _ _ ∧ MU s 0 _ _ < MU s 4 _ _
        refine ⟨?_, ?_⟩
        · unfold JJ
          exact ⟨k, f, acc ++ [⟨pk, ps, pn⟩], va3, n + 1, vc3, _, _, _, _, _, _, _, _, _, _, _, _, _, _, _, _, _, _, _, _, _, _, _, _, _, _, _, _, _, _, _, _, _, _, _, _, _, _, _, _, _, _, _, _, _, _, _, _, _, _, _, _, _, _, _, _, _, _, _, _, _, _, _, _, _, _, _, _, _, _, _, _, _, _, _, rfl, RS4.out, by omega, H2.out hks⟩
        · simp [MU, intOf]
      · have hks' : ¬ (k : Int) < (s.size : Int) := by omega
        have HRR := Hid.mk' (H3.out hks)
        go_wp2
        first | go_ret3 | (rw [jumpN_ret]; go_ret3)
        exact ⟨_, by rw [HRR.out]; rfl, by rw [HRR.out]; exact OW0.out, BW3.out⟩
end Go.Proofs.YthffcdahjcpdfaaGreatDoor
