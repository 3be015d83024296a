import Derived.Test.YtphpaaajfcbafaaDoorQi
namespace Go.Proofs.YtphpaaajfcbafaaDoor.K
open Go.RowKit
set_option linter.unusedVariables false
set_option linter.unusedSimpArgs false

theorem flat_take (Z : List Sr) (k : Nat) (z : Sr) (h : Z[k]? = some z) : flat (Z.take (k + 1)) = flat (Z.take k) ++ z.fl := by
  have hk := (List.getElem?_eq_some_iff.1 h).1
  have e := (List.getElem?_eq_some_iff.1 h).2
  rw [List.take_succ_eq_append_getElem hk, e, flat_app, flat_one]
theorem flat_le (Z : List Sr) (k : Nat) : (flat (Z.take k)).length ≤ (flat Z).length := by
  have e : flat Z = flat (Z.take k) ++ flat (Z.drop k) := by rw [← flat_app, List.take_append_drop]
  rw [e, List.length_append]
  omega
set_option maxRecDepth 100000 in
set_option maxHeartbeats 4000000 in
theorem layout_any (av : Option Addr) (cv : Nat) (Z : List Sr) (n : Nat) (w : World) (hZ : ∀ k z, Z[k]? = some z → ∃ g, av = some ⟨g, 0, none⟩ ∧ ∀ i, i < 3 → w.cell? ⟨g, 3 * k + i, none⟩ = z.cells[i]?) (hN : ∀ z ∈ Z, Nums w z.a z.X ∧ 0 < z.X.length) (hn : (flat Z).length = n) (hb : n ≤ 17592186044416) (hz : Z.length ≤ n) :
    Calls Tryd.prog 38 #[.slice av Z.length cv, .int .i64 (n : Int)] w fun e w' => ∃ v, e = .returned v ∧ OwnV w' w.heap.size 35 v (uC (flat Z)) ∧ Below w.heap.size w w' := by
  obtain ⟨i0, hi, hzz, hs, hby⟩ := info24'
  obtain ⟨wm, hmk, om, gm⟩ := run_make_own (P := Tryd.prog) w w.heap.size 24 35 i0 (.int .u64 0) 1 Tryd.underlying24 hi hzz hs .i64 .i64 n (by rw [hby]; omega) (by unfold maxLen; omega) (Nat.le_refl _)
  have OM : Hid (OwnV wm w.heap.size 35 (.slice (some ⟨w.heap.size, 0, none⟩) 0 n) (uC (flat (Z.take 0)))) := by rw [List.take_zero]; exact om
  have BM : Hid (Below w.heap.size w wm) := ⟨gm.os, gm.tape, gm.output, gm.size, fun k hk => gm.block k hk (by simp)⟩
  have HZ := Hid.mk' hZ
  have HN := Hid.mk' hN
  have HF := Hid.mk' hn
  clear hi hzz hs hby om gm hZ hN hn i0
  go_enter Tryd.func38, Tryd.ntmps38
  go_wp2
  clear hmk
  go_loopw [5, 7, 12] (fun l _ i wr => ∃ (k : Nat) (la : Option Addr) (lc m : Nat), i = .int .i64 (k : Int) ∧ k ≤ Z.length ∧ m ≤ n ∧ l = .slice la m lc ∧ Hid ((flat (Z.take k)).length = m) ∧ Hid (OwnV wr w.heap.size 35 (.slice la m lc) (uC (flat (Z.take k)))) ∧ Hid (Below w.heap.size w wr)) (fun _ _ i _ => Z.length - (intOf i).toNat)
  case atStart => exact ⟨0, _, _, 0, rfl, by omega, by omega, rfl, rfl, OM, BM⟩
  case round =>
    obtain ⟨k, la, lc, m, rfl, hk, hm, rfl, HM, HO, HB⟩ := hrel
    clear OM BM
    by_cases hkl : k < Z.length
    · have hkl' : (k : Int) < (Z.length : Int) := by omega
      obtain ⟨z, hzk⟩ : ∃ z, Z[k]? = some z := ⟨Z[k], List.getElem?_eq_getElem hkl⟩
      obtain ⟨g, rfl, hc⟩ := HZ.out k z hzk
      obtain ⟨n1, n0⟩ := HN.out z (List.mem_of_getElem? hzk)
      have HFT := Hid.mk' (flat_take Z k z hzk)
      have hfl := flat_le Z (k + 1)
      rw [HFT.out, HF.out, List.length_append, HM.out] at hfl
      have c0 : wr.cell? ⟨g, 3 * k, none⟩ = some (.bool z.row) := (HB.out.cell (p := ⟨g, 3 * k, none⟩) (block_lt_of_cell (hc 0 (by decide)))).trans (hc 0 (by decide))
      have c1 : wr.cell? ⟨g, 3 * k + 1, none⟩ = some (.int .i64 (z.cnt : Int)) := (HB.out.cell (p := ⟨g, 3 * k + 1, none⟩) (block_lt_of_cell (hc 1 (by decide)))).trans (hc 1 (by decide))
      have c2 : wr.cell? ⟨g, 3 * k + 2, none⟩ = some (.slice z.a z.X.length z.cap) := (HB.out.cell (p := ⟨g, 3 * k + 2, none⟩) (block_lt_of_cell (hc 2 (by decide)))).trans (hc 2 (by decide))
      have ix := fun W => index68 g Z.length cv k W hkl
      have be : Below wr.heap.size wr (wr.alloc (.cells #[.bool z.row, .int .i64 (z.cnt : Int), .slice z.a z.X.length z.cap] 71)) := (Below.refl _ _).alloc (Nat.le_refl _) _
      have HB1 : Hid (Below w.heap.size w (wr.alloc (.cells #[.bool z.row, .int .i64 (z.cnt : Int), .slice z.a z.X.length z.cap] 71))) := HB.out.trans (be.mono HB.out.size)
      have HO1 : Hid (OwnV (wr.alloc (.cells #[.bool z.row, .int .i64 (z.cnt : Int), .slice z.a z.X.length z.cap] 71)) w.heap.size 35 (.slice la m lc) (uC (flat (Z.take k)))) := HO.out.below be
      have nn : Hid (Nums w z.a z.X) := n1
      generalize hk3 : 3 * k = k3 at *
      have hfz : z.fl = if z.row = true then z.X else List.replicate z.cnt (z.X.getD 0 0) := rfl
      cases hrow : z.row
      · rw [hrow] at c0 HB1 HO1 hfz be
        rw [if_neg (by simp)] at hfz
        rw [hfz] at hfl HFT
        rw [List.length_replicate] at hfl
        have q2 : (wr.alloc (.cells #[.bool false, .int .i64 (z.cnt : Int), .slice z.a z.X.length z.cap] 71)).cell? ⟨wr.heap.size, 2, none⟩ = some (.slice z.a z.X.length z.cap) := (cell_of_row _ wr.heap.size 2 _ _ _ (heap_alloc_new _ _)).trans rfl
        have HQ2 := Hid.mk' q2
        have HNQ : Hid ((Value.slice la m lc).ownBlock ≠ some wr.heap.size) := fun e => by have := (World.ownsRow.lt HO.out _ e).2; omega
        have HZW : Hid (wr.heap.size < (wr.alloc (.cells #[.bool false, .int .i64 (z.cnt : Int), .slice z.a z.X.length z.cap] 71)).heap.size) := by show _ < _; simp
        clear hc HO HB n1 be hk3 hfz hrow q2
        generalize z.cnt = cnt at *
        generalize z.a = za at *
        generalize z.cap = zc at *
        generalize z.X = X at *
        generalize hx : X.getD 0 0 = x at *
        have HX := Hid.mk' hx
        clear hx
        go_wp2
        generalize hq : wr.heap.size = q at *
        clear hq
        go_loopw [5, 24] (fun l i wr2 => ∃ (j : Nat) (lb : Option Addr) (ld : Nat), i = .int .i64 (j : Int) ∧ j ≤ cnt ∧ l = .slice lb (m + j) ld ∧ Hid (OwnV wr2 w.heap.size 35 (.slice lb (m + j) ld) (uC (flat (Z.take k) ++ List.replicate j x))) ∧ Hid (Below w.heap.size w wr2) ∧ Hid (wr2.cell? ⟨q, 2, none⟩ = some (.slice za X.length zc)) ∧ Hid ((Value.slice lb (m + j) ld).ownBlock ≠ some q) ∧ Hid (q < wr2.heap.size)) (fun _ i _ => cnt - (intOf i).toNat)
        case atStart => exact ⟨0, la, lc, rfl, by omega, rfl, by rw [List.replicate_zero, List.append_nil]; exact HO1, HB1, HQ2, HNQ, HZW⟩
        case round =>
          obtain ⟨j, lb, ld, rfl, hj, rfl, HOj, HBj, HQj, HNj, HZj⟩ := hrel
          clear HO1 HB1 HQ2 HNQ HZW
          by_cases hjc : j < cnt
          · have hjc' : (j : Int) < (cnt : Int) := by omega
            have HFi : Hid (Calls Tryd.prog 54 #[.pointer (some ⟨q, 0, none⟩)] wr fun e w' => e = .returned (.int .u64 (x : Int)) ∧ ∃ m, w' = wr.drewN m) := by
              have := first_any q 0 za zc X wr HQj.out (nn.out.below HBj.out) n0
              rw [HX.out] at this
              exact this
            have hmj : m + j ≤ 17592186044416 := by omega
            have HAP : Hid (∀ mm, OwnV ((wr.drewN mm).alloc (.cells #[.int .u64 (x : Int)] 35)) w.heap.size 35 (.slice lb (m + j) ld) (uC (flat (Z.take k) ++ List.replicate j x)) ∧ Vals ((wr.drewN mm).alloc (.cells #[.int .u64 (x : Int)] 35)) (some ⟨wr.heap.size, 0, none⟩) [.int .u64 (x : Int)] ∧ w.heap.size ≤ ((wr.drewN mm).alloc (.cells #[.int .u64 (x : Int)] 35)).heap.size ∧ Below w.heap.size w ((wr.drewN mm).alloc (.cells #[.int .u64 (x : Int)] 35)) ∧ ((wr.drewN mm).alloc (.cells #[.int .u64 (x : Int)] 35)).cell? ⟨q, 2, none⟩ = some (.slice za X.length zc)) := fun mm => by
              have be : Below wr.heap.size wr ((wr.drewN mm).alloc (.cells #[.int .u64 (x : Int)] 35)) := (below_drewN (Below.refl _ _) mm).alloc (Nat.le_refl _) _
              exact ⟨HOj.out.below be, vals_lit (wr.drewN mm) _ _, Nat.le_trans HBj.out.size be.size, HBj.out.trans (be.mono HBj.out.size), (be.cell (p := ⟨q, 2, none⟩) HZj.out).trans HQj.out⟩
            have hL : Hid ((uC (flat (Z.take k) ++ List.replicate j x)).length + [Value.int .u64 (x : Int)].length ≤ 28000000000000) := by show _ ≤ _; rw [uC_len, List.length_append, HM.out]; simp; omega
            have hlj : (uC (flat (Z.take k) ++ List.replicate j x)).length = m + j := by rw [uC_len, List.length_append, HM.out, List.length_replicate]
            have HLJ := Hid.mk' hlj
            clear hlj
            generalize hmj2 : m + j = mj at *
            have HMJ := Hid.mk' hmj2
            clear hmj2
            go_wp2_with (first
              | (go_at_call 54; refine HFi.out.mono ?_; rintro e W1 ⟨rfl, m1, rfl⟩)
              | (at_builtin; refine wpList_appV rfl (.tmp 26) (.tmp 28) 24 35 (.int .u64 0) Tryd.underlying24 info24 rfl rfl w.heap.size (.slice lb mj ld) (uC (flat (Z.take k) ++ List.replicate j x)) rfl (HAP.out m1).1 (some ⟨wr.heap.size, 0, none⟩) 1 1 [.int .u64 (x : Int)] rfl rfl (HAP.out m1).2.1 (by intro u hu; simp at hu; rw [hu]; rfl) hL.out (HAP.out m1).2.2.1 ?_)
              | fail)
            intro v' w1 own1 gr1 hblk
            obtain ⟨a1, a2, a3, a4, a5⟩ := HAP.out m1
            have B1 : Hid (Below w.heap.size w w1) := below_ownV a4 a1 gr1 a3
            have e1 : uC (flat (Z.take k) ++ List.replicate j x) ++ [.int .u64 (x : Int)] = uC (flat (Z.take k) ++ List.replicate (j + 1) x) := by
              rw [List.replicate_succ', ← List.append_assoc, uC_app (flat (Z.take k) ++ List.replicate j x)]
              rfl
            rw [e1] at own1
            obtain ⟨av2, cv2, rfl, _⟩ := own1.open
            have hl2 : (uC (flat (Z.take k) ++ List.replicate (j + 1) x)).length = m + (j + 1) := by rw [uC_len, List.length_append, HM.out, List.length_replicate]
            rw [hl2] at own1 hblk ⊢
            have O1 : Hid (OwnV w1 w.heap.size 35 (.slice av2 (m + (j + 1)) cv2) (uC (flat (Z.take k) ++ List.replicate (j + 1) x))) := own1
            have hqw : q < ((wr.drewN m1).alloc (.cells #[.int .u64 (x : Int)] 35)).heap.size := by have := HZj.out; simp; omega
            have Q1 : Hid (w1.cell? ⟨q, 2, none⟩ = some (.slice za X.length zc)) := by
              show _ = _
              rw [← a5]
              unfold World.cell?
              rw [gr1.block q hqw (fun e => HNj.out e.symm)]
            have N1 : Hid ((Value.slice av2 (m + (j + 1)) cv2).ownBlock ≠ some q) := fun e => by
              rcases hblk with h1 | h1
              · exact HNj.out (h1.symm.trans e)
              · rw [h1] at e
                simp at e
                have := HZj.out
                omega
            have Z1 : Hid (q < w1.heap.size) := Nat.lt_of_lt_of_le hqw gr1.size
            clear own1 gr1 hblk HAP hL e1 hl2 HFi a1 a2 a3 a4 a5 hqw
            generalize hm3 : m + (j + 1) = m3 at *
            have HM3 := Hid.mk' hm3
            clear hm3
            go_wp2
            exact ⟨⟨j + 1, av2, cv2, by go_num, by omega, by rw [HM3.out], by rw [HM3.out]; exact O1, B1, Q1, by rw [HM3.out]; exact N1, Z1⟩, by simp [intOf]; omega⟩
          · obtain rfl : j = cnt := by omega
            have hjc' : ¬ (j : Int) < (j : Int) := by omega
            have HL2 : Hid ((flat (Z.take (k + 1))).length = m + j) := by show _ = _; rw [HFT.out, List.length_append, HM.out, List.length_replicate]
            have O1 : Hid (OwnV wr w.heap.size 35 (.slice lb (m + j) ld) (uC (flat (Z.take (k + 1))))) := by rw [HFT.out]; exact HOj
            have hm2 : m + j ≤ n := by omega
            clear HOj HFT
            generalize hmm : m + j = m2 at *
            clear hmm
            go_wp2
            go_roundw
            case rel => exact ⟨k + 1, lb, ld, m2, by go_num, by omega, by omega, rfl, HL2, O1, HBj⟩
            case measure => simp [intOf]; omega
      · rw [hrow] at c0 HB1 HO1 hfz be
        rw [if_pos rfl] at hfz
        rw [hfz] at hfl HFT
        have HV1 : Hid (Vals (wr.alloc (.cells #[.bool true, .int .i64 (z.cnt : Int), .slice z.a z.X.length z.cap] 71)) z.a (uC z.X)) := nums_vals (nn.out.below HB1.out)
        have hL : Hid ((uC (flat (Z.take k))).length + (uC z.X).length ≤ 28000000000000) := by show _ ≤ _; rw [uC_len, uC_len, HM.out]; omega
        have hX := uC_len z.X
        clear hc HO HB n1 be hk3 hfz hrow
        generalize z.cnt = cnt at *
        generalize z.a = za at *
        generalize z.cap = zc at *
        generalize z.X = X at *
        go_wp2_with (first | (at_builtin; refine wpList_appV rfl (.tmp 18) (.tmp 20) 24 35 (.int .u64 0) Tryd.underlying24 info24 rfl rfl w.heap.size (.slice la m lc) (uC (flat (Z.take k))) rfl HO1.out za X.length zc (uC X) rfl hX HV1.out (uC_one X) hL.out HB1.out.size ?_) | fail)
        intro v' w1 own1 gr1 hblk
        have B1 : Hid (Below w.heap.size w w1) := below_ownV HB1.out HO1.out gr1 HB1.out.size
        have e1 : uC (flat (Z.take k)) ++ uC X = uC (flat (Z.take (k + 1))) := by rw [HFT.out, uC_app]
        rw [e1] at own1
        obtain ⟨av2, cv2, rfl, _⟩ := own1.open
        have hl2 : (flat (Z.take (k + 1))).length = m + X.length := by rw [HFT.out, List.length_append, HM.out]
        rw [uC_len, hl2] at own1 ⊢
        have O1 : Hid (OwnV w1 w.heap.size 35 (.slice av2 (m + X.length) cv2) (uC (flat (Z.take (k + 1))))) := own1
        have HL2 := Hid.mk' hl2
        clear own1 gr1 hblk HO1 HV1 hL HB1 e1 hl2
        generalize hmm : m + X.length = m2 at *
        clear hmm
        go_wp2
        go_roundw
        case rel => exact ⟨k + 1, av2, cv2, m2, by go_num, by omega, by omega, rfl, HL2, O1, B1⟩
        case measure => simp [intOf]; omega
    · obtain rfl : k = Z.length := by omega
      have hkl' : ¬ (Z.length : Int) < (Z.length : Int) := by omega
      rw [List.take_of_length_le (Nat.le_refl _)] at HO
      clear HM
      go_wp2
      go_ret
      exact ⟨_, rfl, HO.out, HB.out⟩
end Go.Proofs.YtphpaaajfcbafaaDoor.K
