import Derived.Test.YtefoipjbbfcjhaaDoorDm0
namespace Go.Proofs.YtefoipjbbfcjhaaDoor
open Go.RowKit
set_option linter.unusedVariables false
set_option linter.unusedSimpArgs false

set_option maxRecDepth 100000 in
set_option maxHeartbeats 40000000 in
theorem rough_abs (la lb FR EN : Nat) (av bv : Nat → Nat) (aA aB : Option Addr) (cA cB : Nat) (w : World) (EV : Nat → ByteArray) (TX : Nat → ByteArray) (HE : Hid (∀ i j, i < la → j < lb → (EV (av i) = EV (bv j) ↔ av i = bv j)))
    (HT0 : Hid (TX FR = ⟨#[]⟩)) (HT1 : Hid (∀ i, FR ≤ i → i < lb → TX (i + 1) = TX i ++ EV (bv i))) (HF : Hid (FR = frF la lb av bv (la - 0) 0)) (HN : Hid (EN = enF la lb FR av bv (la - 0) 0))
    (HS1 : Hid (∀ i, i ≤ lb → (TX i).size ≤ 8388608)) (HS2 : Hid (∀ x, (EV x).size ≤ 4)) (HA : Hid (Chs w aA la (fun i => .string (EV (av i))))) (HB : Hid (Chs w aB lb (fun i => .string (EV (bv i))))) (h1 : la ≤ 1048576) (h2 : lb ≤ 1048576) :
    Calls Tryd.prog 17 #[.slice aA la cA, .slice aB lb cB] w fun e w' => ∃ v, e = .returned v ∧ w'.ownsRow w.heap.size 34 7 v (roL la lb FR EN TX).length (pV (roL la lb FR EN TX)) ∧ Below w.heap.size w w' := by
  have hf1 := (frF_le (la := la) (lb := lb) (a := av) (b := bv) (la - 0) 0 (by omega) (by omega))
  rw [← HF.out] at hf1
  have hn1 := (enF_le (la := la) (lb := lb) (fr := FR) (a := av) (b := bv) (la - 0) 0 (by omega) (by omega))
  rw [← HN.out] at hn1
  obtain ⟨hf1, hf2⟩ := hf1
  obtain ⟨hn1, hn2⟩ := hn1
  generalize hRO : roL la lb FR EN TX = RO
  have HRO := Hid.mk' hRO
  clear hRO
  go_enter Tryd.func17, Tryd.ntmps17
  go_wp2
  go_loopw [5] (fun i wr => ∃ k : Nat, k ≤ la ∧ k ≤ lb ∧ i = .int .i64 (k : Int) ∧ Hid (FR = frF la lb av bv (la - k) k) ∧ Hid (Below w.heap.size w wr)) (fun i _ => la - (intOf i).toNat)
  case atStart => exact ⟨0, by omega, by omega, rfl, HF, Below.refl _ _⟩
  case round =>
    obtain ⟨k, hk1, hk2, rfl, HK, HW⟩ := hrel
    clear HF
    by_cases hgo : k < la ∧ k < lb ∧ av k = bv k
    · obtain ⟨q1, q2, hs⟩ := hgo
      have q1' : (k : Int) < (la : Int) := by omega
      have q2' : (k : Int) < (lb : Int) := by omega
      obtain ⟨ga, rfl, ca⟩ := HA.out _ HW.out k q1
      obtain ⟨gb, rfl, cb⟩ := HB.out _ HW.out k q2
      dsimp only at ca cb
      have hse : EV (av k) = EV (bv k) := by rw [hs]
      rw [hse] at ca
      have HK2 : Hid (FR = frF la lb av bv (la - (k + 1)) (k + 1)) := by show _ = _; rw [HK.out, frF_go q1 q2 hs]
      clear HK hs hse
      generalize EV (bv k) = eb at *
      go_wp2
      go_quiet (fail)
      go_wp2
      go_roundw
      case rel => exact ⟨k + 1, by omega, by omega, by go_num, HK2, below_drewN HW.out _⟩
      case measure => simp [intOf]; omega
    · obtain rfl : FR = k := by rw [HK.out, frF_end hgo]
      clear HK
      have H3 : (¬ FR < la) ∨ (FR < la ∧ ¬ FR < lb) ∨ (FR < la ∧ FR < lb ∧ ¬ av FR = bv FR) := by
        by_cases q1 : FR < la
        · by_cases q2 : FR < lb
          · exact .inr (.inr ⟨q1, q2, fun e => hgo ⟨q1, q2, e⟩⟩)
          · exact .inr (.inl ⟨q1, q2⟩)
        · exact .inl q1
      clear hgo
      rcases H3 with q1 | ⟨q1, q2⟩ | ⟨q1, q2, hs⟩
      · have q1' : ¬ (FR : Int) < (la : Int) := by omega
        go_wp2
        go_quiet (fail)
        go_wp2
        obtain ⟨DA, hDA⟩ : ∃ x, la - FR = x := ⟨_, rfl⟩
        obtain ⟨DB, hDB⟩ : ∃ x, lb - FR = x := ⟨_, rfl⟩
        have eda : (la : Int) - (FR : Int) = (DA : Int) := by omega
        have edb : (lb : Int) - (FR : Int) = (DB : Int) := by omega
        have hDA2 : DA ≤ la := by omega
        have hDB2 : DB ≤ lb := by omega
        have HDA := Hid.mk' hDA
        have HDB := Hid.mk' hDB
        rw [hDA] at hn1
        rw [hDB] at hn2
        clear hDA hDB
        go_loopw [6] (fun e wr => ∃ k : Nat, k ≤ DA ∧ k ≤ DB ∧ e = .int .i64 (k : Int) ∧ Hid (EN = enF la lb FR av bv (la - k) k) ∧ Hid (Below w.heap.size w wr)) (fun e _ => la - (intOf e).toNat)
        case atStart => exact ⟨0, by omega, by omega, rfl, HN, below_drewN HW.out _⟩
        case round =>
          obtain ⟨k, hk3, hk4, rfl, HK, HW1⟩ := hrel
          try clear ca cb hse2
          clear HN HW
          by_cases hgo : k < DA ∧ k < DB ∧ av (la - 1 - k) = bv (lb - 1 - k)
          · obtain ⟨r1, r2, hs⟩ := hgo
            have r1' : (k : Int) < (DA : Int) := by omega
            have r2' : (k : Int) < (DB : Int) := by omega
            obtain ⟨xa, hxa⟩ : ∃ x, la - 1 - k = x := ⟨_, rfl⟩
            obtain ⟨xb, hxb⟩ : ∃ x, lb - 1 - k = x := ⟨_, rfl⟩
            have hdd := HDA.out
            have hdb := HDB.out
            have exa : (la : Int) - 1 - (k : Int) = (xa : Int) := by omega
            have exb : (lb : Int) - 1 - (k : Int) = (xb : Int) := by omega
            have lxa : xa < la := by omega
            have lxb : xb < lb := by omega
            clear hdd hdb
            obtain ⟨ga, ea, ca⟩ := HA.out _ HW1.out xa lxa
            obtain ⟨gb, eb, cb⟩ := HB.out _ HW1.out xb lxb
            first | (subst ea) | (obtain rfl : ga = _ := by simpa using ea.symm)
            first | (subst eb) | (obtain rfl : gb = _ := by simpa using eb.symm)
            dsimp only at ca cb
            rw [hxa, hxb] at hs
            have hse : EV (av xa) = EV (bv xb) := by rw [hs]
            rw [hse] at ca
            have HK2 : Hid (EN = enF la lb FR av bv (la - (k + 1)) (k + 1)) := by show _ = _; rw [HK.out, enF_go (by rw [HDA.out]; exact r1) (by rw [HDB.out]; exact r2) (by rw [hxa, hxb]; exact hs)]
            clear HK hs hse hxa hxb
            generalize EV (bv xb) = eb at *
            go_wp2
            go_quiet (fail)
            go_wp2
            go_roundw
            case rel => exact ⟨k + 1, by omega, by omega, by go_num, HK2, below_drewN HW1.out _⟩
            case measure => simp [intOf]; omega
          · obtain rfl : EN = k := by rw [HK.out, enF_end (by rw [HDA.out, HDB.out]; exact hgo)]
            clear HK
            have H3 : (¬ EN < DA) ∨ (EN < DA ∧ ¬ EN < DB) ∨ (EN < DA ∧ EN < DB ∧ ¬ av (la - 1 - EN) = bv (lb - 1 - EN)) := by
              by_cases q1 : EN < DA
              · by_cases q2 : EN < DB
                · exact .inr (.inr ⟨q1, q2, fun e => hgo ⟨q1, q2, e⟩⟩)
                · exact .inr (.inl ⟨q1, q2⟩)
              · exact .inl q1
            clear hgo
            obtain ⟨cnt, hcnt⟩ : ∃ x, DA - EN = x := ⟨_, rfl⟩
            obtain ⟨le, hle⟩ : ∃ x, lb - EN = x := ⟨_, rfl⟩
            have ecnt : (DA : Int) - (EN : Int) = (cnt : Int) := by omega
            have hdb := HDB.out
            have ele : (lb : Int) - (EN : Int) = (le : Int) := by omega
            have hleF : FR ≤ le := by omega
            have hleB : le ≤ lb := by omega
            have hcl : cnt ≤ la := by omega
            have HCNT : Hid (la - FR - EN = cnt) := by show _ = _; rw [HDA.out]; exact hcnt
            have HLE := Hid.mk' hle
            clear hdb hcnt hle
            rcases H3 with r1 | ⟨r1, r2⟩ | ⟨r1, r2, hs⟩
            · have r1' : ¬ (EN : Int) < (DA : Int) := by omega
              go_wp2
              go_quiet (fail)
              clear r1 r1'
              have HWd := Hid.mk' (below_drewN HW1.out nq)
              have hsz := Hid.mk' HWd.out.size
              generalize wr.drewN nq = W at *
              clear HW1
              try clear ca
              try clear cb
              try clear hse2
              try clear exa exb
              try clear r2'
              try clear r2
              try clear q2'
              try clear q2
              try clear q1'
              try clear q1
              go_wp2
              go_loopw [8] (fun i wr => ∃ k : Nat, FR ≤ k ∧ k ≤ le ∧ i = .int .i64 (k : Int) ∧ Hid (wr.rowIs W.heap.size 34 7 (fun j => (patC FR cnt (TX k)).getD j undef)) ∧ Hid (Below w.heap.size w wr)) (fun i _ => le - (intOf i).toNat)
              case atStart => exact ⟨FR, Nat.le_refl _, hleF, rfl, row_pat W FR cnt _ HT0.out, HWd.out.alloc hsz.out _⟩
              case round =>
                obtain ⟨k, hkF, hkl, rfl, HR, HW3⟩ := hrel
                clear HT0
                by_cases hk : k < le
                · have hk' : (k : Int) < (le : Int) := by omega
                  obtain ⟨gb, eb, cb⟩ := HB.out _ HW3.out k (by omega)
                  first | (subst eb) | (obtain rfl : gb = _ := by simpa using eb.symm)
                  dsimp only at cb
                  have c5 : wr.cell? ⟨W.heap.size, 5, none⟩ = some (.string (TX k)) := HR.out.cell (i := 5) (by decide)
                  have f5 := HR.out.frozen 5
                  have HN5 : Hid (∀ n, ((wr.drewN n).setCell ⟨W.heap.size, 5, none⟩ (.string (TX k ++ EV (bv k)))).rowIs W.heap.size 34 7 (fun j => (patC FR cnt (TX (k + 1))).getD j undef)) := fun n => row_pat5 HR.out n (HT1.out k hkF (by omega))
                  have HN6 : Hid (∀ n, Below w.heap.size w ((wr.drewN n).setCell ⟨W.heap.size, 5, none⟩ (.string (TX k ++ EV (bv k))))) := fun n => (below_drewN HW3.out n).setCell (p := ⟨W.heap.size, 5, none⟩) hsz.out _
                  clear HR HW3
                  have hz : (TX k).size + (EV (bv k)).size ≤ 8388612 := by have := HS1.out k (by omega); have := HS2.out (bv k); omega
                  generalize EV (bv k) = ev at *
                  generalize TX k = tx at *
                  go_wp2
                  go_region
                  all_goals go_wp2
                  all_goals exact ⟨⟨k + 1, by omega, by omega, by go_num, by exact HN5.out _, by exact HN6.out _⟩, by simp [intOf]; omega⟩
                · have hk' : ¬ (k : Int) < (le : Int) := by omega
                  obtain rfl : k = le := by omega
                  have c0 : wr.cell? ⟨W.heap.size, 0, none⟩ = some (.int .u8 4) := HR.out.cell (i := 0) (by decide)
                  have c1 : wr.cell? ⟨W.heap.size, 1, none⟩ = some (.slice none 0 0) := HR.out.cell (i := 1) (by decide)
                  have c2 : wr.cell? ⟨W.heap.size, 2, none⟩ = some (.slice none 0 0) := HR.out.cell (i := 2) (by decide)
                  have c3 : wr.cell? ⟨W.heap.size, 3, none⟩ = some (.int .i64 (FR : Int)) := HR.out.cell (i := 3) (by decide)
                  have c4 : wr.cell? ⟨W.heap.size, 4, none⟩ = some (.int .i64 (cnt : Int)) := HR.out.cell (i := 4) (by decide)
                  have c5 : wr.cell? ⟨W.heap.size, 5, none⟩ = some (.string (TX k)) := HR.out.cell (i := 5) (by decide)
                  have c6 : wr.cell? ⟨W.heap.size, 6, none⟩ = some (.slice none 0 0) := HR.out.cell (i := 6) (by decide)
                  have HANS : Hid (RO = (if cnt = 0 ∧ TX k = ⟨#[]⟩ then [] else [⟨FR, cnt, TX k⟩])) := by show _ = _; rw [← HRO.out]; unfold roL; rw [HCNT.out, HLE.out]
                  clear HR HT1 HB HA HE HCNT HLE HRO
                  have HLIT := Hid.mk' (fun u : Array Value => World.ownsRow_lit (base := w.heap.size) (e := 34) (size := 7) wr u 1 HW3.out.size (by unfold maxLen; omega))
                  by_cases hc : cnt = 0
                  · subst hc
                    by_cases ht : TX k = ⟨#[]⟩
                    · rw [ht] at c5
                      have HAN2 := Hid.mk' (HANS.out.trans (if_pos ⟨rfl, ht⟩))
                      clear HANS ht
                      go_wp2
                      go_ret
                      rw [HAN2.out]
                      exact ⟨_, rfl, World.ownsRow_nil _ _ _ _, HW3.out⟩
                    · have HAN2 := Hid.mk' (HANS.out.trans (if_neg (fun h => ht h.2)))
                      have hte := ba_ne ht
                      have hte2 : (TX k).toList.isEmpty = false := by
                        have := hte
                        simpa using this
                      clear HANS ht
                      generalize TX k = tx at *
                      go_wp2_with (first
                        | (with_reducible refine at_bs ?_; refine wpList_lit1 ei23 (.tmp 100) _ rfl rfl (.agg (patC FR 0 tx)) rfl rfl ?_)
                        | fail)
                      go_ret
                      rw [HAN2.out]
                      exact ⟨_, rfl, by have := HLIT.out (patC FR 0 tx) rfl; simpa [pV, patC] using this, HW3.out.alloc HW3.out.size _⟩
                  · have hc' : ¬ (cnt : Int) = 0 := by omega
                    have hc2 : ((cnt : Int) == 0) = false := by simp; omega
                    have HAN2 := Hid.mk' (HANS.out.trans (if_neg (fun h => hc h.1)))
                    clear hc hc'
                    clear HANS
                    generalize TX k = tx at *
                    go_wp2_with (first
                      | (with_reducible refine at_bs ?_; refine wpList_lit1 ei23 (.tmp 100) _ rfl rfl (.agg (patC FR cnt tx)) rfl rfl ?_)
                      | fail)
                    go_ret
                    rw [HAN2.out]
                    exact ⟨_, rfl, by have := HLIT.out (patC FR cnt tx) rfl; simpa [pV, patC] using this, HW3.out.alloc HW3.out.size _⟩

            · have r1' : (EN : Int) < (DA : Int) := by omega
              have r2' : ¬ (EN : Int) < (DB : Int) := by omega
              go_wp2
              go_quiet (fail)
              clear r1 r1'
              have HWd := Hid.mk' (below_drewN HW1.out nq)
              have hsz := Hid.mk' HWd.out.size
              generalize wr.drewN nq = W at *
              clear HW1
              try clear ca
              try clear cb
              try clear hse2
              try clear exa exb
              try clear r2'
              try clear r2
              try clear q2'
              try clear q2
              try clear q1'
              try clear q1
              go_wp2
              go_loopw [8] (fun i wr => ∃ k : Nat, FR ≤ k ∧ k ≤ le ∧ i = .int .i64 (k : Int) ∧ Hid (wr.rowIs W.heap.size 34 7 (fun j => (patC FR cnt (TX k)).getD j undef)) ∧ Hid (Below w.heap.size w wr)) (fun i _ => le - (intOf i).toNat)
              case atStart => exact ⟨FR, Nat.le_refl _, hleF, rfl, row_pat W FR cnt _ HT0.out, HWd.out.alloc hsz.out _⟩
              case round =>
                obtain ⟨k, hkF, hkl, rfl, HR, HW3⟩ := hrel
                clear HT0
                by_cases hk : k < le
                · have hk' : (k : Int) < (le : Int) := by omega
                  obtain ⟨gb, eb, cb⟩ := HB.out _ HW3.out k (by omega)
                  first | (subst eb) | (obtain rfl : gb = _ := by simpa using eb.symm)
                  dsimp only at cb
                  have c5 : wr.cell? ⟨W.heap.size, 5, none⟩ = some (.string (TX k)) := HR.out.cell (i := 5) (by decide)
                  have f5 := HR.out.frozen 5
                  have HN5 : Hid (∀ n, ((wr.drewN n).setCell ⟨W.heap.size, 5, none⟩ (.string (TX k ++ EV (bv k)))).rowIs W.heap.size 34 7 (fun j => (patC FR cnt (TX (k + 1))).getD j undef)) := fun n => row_pat5 HR.out n (HT1.out k hkF (by omega))
                  have HN6 : Hid (∀ n, Below w.heap.size w ((wr.drewN n).setCell ⟨W.heap.size, 5, none⟩ (.string (TX k ++ EV (bv k))))) := fun n => (below_drewN HW3.out n).setCell (p := ⟨W.heap.size, 5, none⟩) hsz.out _
                  clear HR HW3
                  have hz : (TX k).size + (EV (bv k)).size ≤ 8388612 := by have := HS1.out k (by omega); have := HS2.out (bv k); omega
                  generalize EV (bv k) = ev at *
                  generalize TX k = tx at *
                  go_wp2
                  go_region
                  all_goals go_wp2
                  all_goals exact ⟨⟨k + 1, by omega, by omega, by go_num, by exact HN5.out _, by exact HN6.out _⟩, by simp [intOf]; omega⟩
                · have hk' : ¬ (k : Int) < (le : Int) := by omega
                  obtain rfl : k = le := by omega
                  have c0 : wr.cell? ⟨W.heap.size, 0, none⟩ = some (.int .u8 4) := HR.out.cell (i := 0) (by decide)
                  have c1 : wr.cell? ⟨W.heap.size, 1, none⟩ = some (.slice none 0 0) := HR.out.cell (i := 1) (by decide)
                  have c2 : wr.cell? ⟨W.heap.size, 2, none⟩ = some (.slice none 0 0) := HR.out.cell (i := 2) (by decide)
                  have c3 : wr.cell? ⟨W.heap.size, 3, none⟩ = some (.int .i64 (FR : Int)) := HR.out.cell (i := 3) (by decide)
                  have c4 : wr.cell? ⟨W.heap.size, 4, none⟩ = some (.int .i64 (cnt : Int)) := HR.out.cell (i := 4) (by decide)
                  have c5 : wr.cell? ⟨W.heap.size, 5, none⟩ = some (.string (TX k)) := HR.out.cell (i := 5) (by decide)
                  have c6 : wr.cell? ⟨W.heap.size, 6, none⟩ = some (.slice none 0 0) := HR.out.cell (i := 6) (by decide)
                  have HANS : Hid (RO = (if cnt = 0 ∧ TX k = ⟨#[]⟩ then [] else [⟨FR, cnt, TX k⟩])) := by show _ = _; rw [← HRO.out]; unfold roL; rw [HCNT.out, HLE.out]
                  clear HR HT1 HB HA HE HCNT HLE HRO
                  have HLIT := Hid.mk' (fun u : Array Value => World.ownsRow_lit (base := w.heap.size) (e := 34) (size := 7) wr u 1 HW3.out.size (by unfold maxLen; omega))
                  by_cases hc : cnt = 0
                  · subst hc
                    by_cases ht : TX k = ⟨#[]⟩
                    · rw [ht] at c5
                      have HAN2 := Hid.mk' (HANS.out.trans (if_pos ⟨rfl, ht⟩))
                      clear HANS ht
                      go_wp2
                      go_ret
                      rw [HAN2.out]
                      exact ⟨_, rfl, World.ownsRow_nil _ _ _ _, HW3.out⟩
                    · have HAN2 := Hid.mk' (HANS.out.trans (if_neg (fun h => ht h.2)))
                      have hte := ba_ne ht
                      have hte2 : (TX k).toList.isEmpty = false := by
                        have := hte
                        simpa using this
                      clear HANS ht
                      generalize TX k = tx at *
                      go_wp2_with (first
                        | (with_reducible refine at_bs ?_; refine wpList_lit1 ei23 (.tmp 100) _ rfl rfl (.agg (patC FR 0 tx)) rfl rfl ?_)
                        | fail)
                      go_ret
                      rw [HAN2.out]
                      exact ⟨_, rfl, by have := HLIT.out (patC FR 0 tx) rfl; simpa [pV, patC] using this, HW3.out.alloc HW3.out.size _⟩
                  · have hc' : ¬ (cnt : Int) = 0 := by omega
                    have hc2 : ((cnt : Int) == 0) = false := by simp; omega
                    have HAN2 := Hid.mk' (HANS.out.trans (if_neg (fun h => hc h.1)))
                    clear hc hc'
                    clear HANS
                    generalize TX k = tx at *
                    go_wp2_with (first
                      | (with_reducible refine at_bs ?_; refine wpList_lit1 ei23 (.tmp 100) _ rfl rfl (.agg (patC FR cnt tx)) rfl rfl ?_)
                      | fail)
                    go_ret
                    rw [HAN2.out]
                    exact ⟨_, rfl, by have := HLIT.out (patC FR cnt tx) rfl; simpa [pV, patC] using this, HW3.out.alloc HW3.out.size _⟩

            · have r1' : (EN : Int) < (DA : Int) := by omega
              have r2' : (EN : Int) < (DB : Int) := by omega
              obtain ⟨xa, hxa⟩ : ∃ x, la - 1 - EN = x := ⟨_, rfl⟩
              obtain ⟨xb, hxb⟩ : ∃ x, lb - 1 - EN = x := ⟨_, rfl⟩
              have hdd := HDA.out
              have hdb := HDB.out
              have exa : (la : Int) - 1 - (EN : Int) = (xa : Int) := by omega
              have exb : (lb : Int) - 1 - (EN : Int) = (xb : Int) := by omega
              have lxa : xa < la := by omega
              have lxb : xb < lb := by omega
              clear hdd hdb
              obtain ⟨ga, ea, ca⟩ := HA.out _ HW1.out xa lxa
              obtain ⟨gb, eb, cb⟩ := HB.out _ HW1.out xb lxb
              first | (subst ea) | (obtain rfl : ga = _ := by simpa using ea.symm)
              first | (subst eb) | (obtain rfl : gb = _ := by simpa using eb.symm)
              dsimp only at ca cb
              rw [hxa, hxb] at hs
              have hse2 := ba_ne (fun e => hs ((HE.out xa xb lxa lxb).1 e))
              clear hs hxa hxb
              generalize EV (av xa) = ea at *
              generalize EV (bv xb) = eb at *
              go_wp2
              go_quiet (fail)
              clear r1 r1'
              have HWd := Hid.mk' (below_drewN HW1.out nq)
              have hsz := Hid.mk' HWd.out.size
              generalize wr.drewN nq = W at *
              clear HW1
              try clear ca
              try clear cb
              try clear hse2
              try clear exa exb
              try clear r2'
              try clear r2
              try clear q2'
              try clear q2
              try clear q1'
              try clear q1
              go_wp2
              go_loopw [8] (fun i wr => ∃ k : Nat, FR ≤ k ∧ k ≤ le ∧ i = .int .i64 (k : Int) ∧ Hid (wr.rowIs W.heap.size 34 7 (fun j => (patC FR cnt (TX k)).getD j undef)) ∧ Hid (Below w.heap.size w wr)) (fun i _ => le - (intOf i).toNat)
              case atStart => exact ⟨FR, Nat.le_refl _, hleF, rfl, row_pat W FR cnt _ HT0.out, HWd.out.alloc hsz.out _⟩
              case round =>
                obtain ⟨k, hkF, hkl, rfl, HR, HW3⟩ := hrel
                clear HT0
                by_cases hk : k < le
                · have hk' : (k : Int) < (le : Int) := by omega
                  obtain ⟨gb, eb, cb⟩ := HB.out _ HW3.out k (by omega)
                  first | (subst eb) | (obtain rfl : gb = _ := by simpa using eb.symm)
                  dsimp only at cb
                  have c5 : wr.cell? ⟨W.heap.size, 5, none⟩ = some (.string (TX k)) := HR.out.cell (i := 5) (by decide)
                  have f5 := HR.out.frozen 5
                  have HN5 : Hid (∀ n, ((wr.drewN n).setCell ⟨W.heap.size, 5, none⟩ (.string (TX k ++ EV (bv k)))).rowIs W.heap.size 34 7 (fun j => (patC FR cnt (TX (k + 1))).getD j undef)) := fun n => row_pat5 HR.out n (HT1.out k hkF (by omega))
                  have HN6 : Hid (∀ n, Below w.heap.size w ((wr.drewN n).setCell ⟨W.heap.size, 5, none⟩ (.string (TX k ++ EV (bv k))))) := fun n => (below_drewN HW3.out n).setCell (p := ⟨W.heap.size, 5, none⟩) hsz.out _
                  clear HR HW3
                  have hz : (TX k).size + (EV (bv k)).size ≤ 8388612 := by have := HS1.out k (by omega); have := HS2.out (bv k); omega
                  generalize EV (bv k) = ev at *
                  generalize TX k = tx at *
                  go_wp2
                  go_region
                  all_goals go_wp2
                  all_goals exact ⟨⟨k + 1, by omega, by omega, by go_num, by exact HN5.out _, by exact HN6.out _⟩, by simp [intOf]; omega⟩
                · have hk' : ¬ (k : Int) < (le : Int) := by omega
                  obtain rfl : k = le := by omega
                  have c0 : wr.cell? ⟨W.heap.size, 0, none⟩ = some (.int .u8 4) := HR.out.cell (i := 0) (by decide)
                  have c1 : wr.cell? ⟨W.heap.size, 1, none⟩ = some (.slice none 0 0) := HR.out.cell (i := 1) (by decide)
                  have c2 : wr.cell? ⟨W.heap.size, 2, none⟩ = some (.slice none 0 0) := HR.out.cell (i := 2) (by decide)
                  have c3 : wr.cell? ⟨W.heap.size, 3, none⟩ = some (.int .i64 (FR : Int)) := HR.out.cell (i := 3) (by decide)
                  have c4 : wr.cell? ⟨W.heap.size, 4, none⟩ = some (.int .i64 (cnt : Int)) := HR.out.cell (i := 4) (by decide)
                  have c5 : wr.cell? ⟨W.heap.size, 5, none⟩ = some (.string (TX k)) := HR.out.cell (i := 5) (by decide)
                  have c6 : wr.cell? ⟨W.heap.size, 6, none⟩ = some (.slice none 0 0) := HR.out.cell (i := 6) (by decide)
                  have HANS : Hid (RO = (if cnt = 0 ∧ TX k = ⟨#[]⟩ then [] else [⟨FR, cnt, TX k⟩])) := by show _ = _; rw [← HRO.out]; unfold roL; rw [HCNT.out, HLE.out]
                  clear HR HT1 HB HA HE HCNT HLE HRO
                  have HLIT := Hid.mk' (fun u : Array Value => World.ownsRow_lit (base := w.heap.size) (e := 34) (size := 7) wr u 1 HW3.out.size (by unfold maxLen; omega))
                  by_cases hc : cnt = 0
                  · subst hc
                    by_cases ht : TX k = ⟨#[]⟩
                    · rw [ht] at c5
                      have HAN2 := Hid.mk' (HANS.out.trans (if_pos ⟨rfl, ht⟩))
                      clear HANS ht
                      go_wp2
                      go_ret
                      rw [HAN2.out]
                      exact ⟨_, rfl, World.ownsRow_nil _ _ _ _, HW3.out⟩
                    · have HAN2 := Hid.mk' (HANS.out.trans (if_neg (fun h => ht h.2)))
                      have hte := ba_ne ht
                      have hte2 : (TX k).toList.isEmpty = false := by
                        have := hte
                        simpa using this
                      clear HANS ht
                      generalize TX k = tx at *
                      go_wp2_with (first
                        | (with_reducible refine at_bs ?_; refine wpList_lit1 ei23 (.tmp 100) _ rfl rfl (.agg (patC FR 0 tx)) rfl rfl ?_)
                        | fail)
                      go_ret
                      rw [HAN2.out]
                      exact ⟨_, rfl, by have := HLIT.out (patC FR 0 tx) rfl; simpa [pV, patC] using this, HW3.out.alloc HW3.out.size _⟩
                  · have hc' : ¬ (cnt : Int) = 0 := by omega
                    have hc2 : ((cnt : Int) == 0) = false := by simp; omega
                    have HAN2 := Hid.mk' (HANS.out.trans (if_neg (fun h => hc h.1)))
                    clear hc hc'
                    clear HANS
                    generalize TX k = tx at *
                    go_wp2_with (first
                      | (with_reducible refine at_bs ?_; refine wpList_lit1 ei23 (.tmp 100) _ rfl rfl (.agg (patC FR cnt tx)) rfl rfl ?_)
                      | fail)
                    go_ret
                    rw [HAN2.out]
                    exact ⟨_, rfl, by have := HLIT.out (patC FR cnt tx) rfl; simpa [pV, patC] using this, HW3.out.alloc HW3.out.size _⟩

      · have q1' : (FR : Int) < (la : Int) := by omega
        have q2' : ¬ (FR : Int) < (lb : Int) := by omega
        go_wp2
        go_quiet (fail)
        go_wp2
        obtain ⟨DA, hDA⟩ : ∃ x, la - FR = x := ⟨_, rfl⟩
        obtain ⟨DB, hDB⟩ : ∃ x, lb - FR = x := ⟨_, rfl⟩
        have eda : (la : Int) - (FR : Int) = (DA : Int) := by omega
        have edb : (lb : Int) - (FR : Int) = (DB : Int) := by omega
        have hDA2 : DA ≤ la := by omega
        have hDB2 : DB ≤ lb := by omega
        have HDA := Hid.mk' hDA
        have HDB := Hid.mk' hDB
        rw [hDA] at hn1
        rw [hDB] at hn2
        clear hDA hDB
        go_loopw [6] (fun e wr => ∃ k : Nat, k ≤ DA ∧ k ≤ DB ∧ e = .int .i64 (k : Int) ∧ Hid (EN = enF la lb FR av bv (la - k) k) ∧ Hid (Below w.heap.size w wr)) (fun e _ => la - (intOf e).toNat)
        case atStart => exact ⟨0, by omega, by omega, rfl, HN, below_drewN HW.out _⟩
        case round =>
          obtain ⟨k, hk3, hk4, rfl, HK, HW1⟩ := hrel
          try clear ca cb hse2
          clear HN HW
          by_cases hgo : k < DA ∧ k < DB ∧ av (la - 1 - k) = bv (lb - 1 - k)
          · obtain ⟨r1, r2, hs⟩ := hgo
            have r1' : (k : Int) < (DA : Int) := by omega
            have r2' : (k : Int) < (DB : Int) := by omega
            obtain ⟨xa, hxa⟩ : ∃ x, la - 1 - k = x := ⟨_, rfl⟩
            obtain ⟨xb, hxb⟩ : ∃ x, lb - 1 - k = x := ⟨_, rfl⟩
            have hdd := HDA.out
            have hdb := HDB.out
            have exa : (la : Int) - 1 - (k : Int) = (xa : Int) := by omega
            have exb : (lb : Int) - 1 - (k : Int) = (xb : Int) := by omega
            have lxa : xa < la := by omega
            have lxb : xb < lb := by omega
            clear hdd hdb
            obtain ⟨ga, ea, ca⟩ := HA.out _ HW1.out xa lxa
            obtain ⟨gb, eb, cb⟩ := HB.out _ HW1.out xb lxb
            first | (subst ea) | (obtain rfl : ga = _ := by simpa using ea.symm)
            first | (subst eb) | (obtain rfl : gb = _ := by simpa using eb.symm)
            dsimp only at ca cb
            rw [hxa, hxb] at hs
            have hse : EV (av xa) = EV (bv xb) := by rw [hs]
            rw [hse] at ca
            have HK2 : Hid (EN = enF la lb FR av bv (la - (k + 1)) (k + 1)) := by show _ = _; rw [HK.out, enF_go (by rw [HDA.out]; exact r1) (by rw [HDB.out]; exact r2) (by rw [hxa, hxb]; exact hs)]
            clear HK hs hse hxa hxb
            generalize EV (bv xb) = eb at *
            go_wp2
            go_quiet (fail)
            go_wp2
            go_roundw
            case rel => exact ⟨k + 1, by omega, by omega, by go_num, HK2, below_drewN HW1.out _⟩
            case measure => simp [intOf]; omega
          · obtain rfl : EN = k := by rw [HK.out, enF_end (by rw [HDA.out, HDB.out]; exact hgo)]
            clear HK
            have H3 : (¬ EN < DA) ∨ (EN < DA ∧ ¬ EN < DB) ∨ (EN < DA ∧ EN < DB ∧ ¬ av (la - 1 - EN) = bv (lb - 1 - EN)) := by
              by_cases q1 : EN < DA
              · by_cases q2 : EN < DB
                · exact .inr (.inr ⟨q1, q2, fun e => hgo ⟨q1, q2, e⟩⟩)
                · exact .inr (.inl ⟨q1, q2⟩)
              · exact .inl q1
            clear hgo
            obtain ⟨cnt, hcnt⟩ : ∃ x, DA - EN = x := ⟨_, rfl⟩
            obtain ⟨le, hle⟩ : ∃ x, lb - EN = x := ⟨_, rfl⟩
            have ecnt : (DA : Int) - (EN : Int) = (cnt : Int) := by omega
            have hdb := HDB.out
            have ele : (lb : Int) - (EN : Int) = (le : Int) := by omega
            have hleF : FR ≤ le := by omega
            have hleB : le ≤ lb := by omega
            have hcl : cnt ≤ la := by omega
            have HCNT : Hid (la - FR - EN = cnt) := by show _ = _; rw [HDA.out]; exact hcnt
            have HLE := Hid.mk' hle
            clear hdb hcnt hle
            rcases H3 with r1 | ⟨r1, r2⟩ | ⟨r1, r2, hs⟩
            · have r1' : ¬ (EN : Int) < (DA : Int) := by omega
              go_wp2
              go_quiet (fail)
              clear r1 r1'
              have HWd := Hid.mk' (below_drewN HW1.out nq)
              have hsz := Hid.mk' HWd.out.size
              generalize wr.drewN nq = W at *
              clear HW1
              try clear ca
              try clear cb
              try clear hse2
              try clear exa exb
              try clear r2'
              try clear r2
              try clear q2'
              try clear q2
              try clear q1'
              try clear q1
              go_wp2
              go_loopw [8] (fun i wr => ∃ k : Nat, FR ≤ k ∧ k ≤ le ∧ i = .int .i64 (k : Int) ∧ Hid (wr.rowIs W.heap.size 34 7 (fun j => (patC FR cnt (TX k)).getD j undef)) ∧ Hid (Below w.heap.size w wr)) (fun i _ => le - (intOf i).toNat)
              case atStart => exact ⟨FR, Nat.le_refl _, hleF, rfl, row_pat W FR cnt _ HT0.out, HWd.out.alloc hsz.out _⟩
              case round =>
                obtain ⟨k, hkF, hkl, rfl, HR, HW3⟩ := hrel
                clear HT0
                by_cases hk : k < le
                · have hk' : (k : Int) < (le : Int) := by omega
                  obtain ⟨gb, eb, cb⟩ := HB.out _ HW3.out k (by omega)
                  first | (subst eb) | (obtain rfl : gb = _ := by simpa using eb.symm)
                  dsimp only at cb
                  have c5 : wr.cell? ⟨W.heap.size, 5, none⟩ = some (.string (TX k)) := HR.out.cell (i := 5) (by decide)
                  have f5 := HR.out.frozen 5
                  have HN5 : Hid (∀ n, ((wr.drewN n).setCell ⟨W.heap.size, 5, none⟩ (.string (TX k ++ EV (bv k)))).rowIs W.heap.size 34 7 (fun j => (patC FR cnt (TX (k + 1))).getD j undef)) := fun n => row_pat5 HR.out n (HT1.out k hkF (by omega))
                  have HN6 : Hid (∀ n, Below w.heap.size w ((wr.drewN n).setCell ⟨W.heap.size, 5, none⟩ (.string (TX k ++ EV (bv k))))) := fun n => (below_drewN HW3.out n).setCell (p := ⟨W.heap.size, 5, none⟩) hsz.out _
                  clear HR HW3
                  have hz : (TX k).size + (EV (bv k)).size ≤ 8388612 := by have := HS1.out k (by omega); have := HS2.out (bv k); omega
                  generalize EV (bv k) = ev at *
                  generalize TX k = tx at *
                  go_wp2
                  go_region
                  all_goals go_wp2
                  all_goals exact ⟨⟨k + 1, by omega, by omega, by go_num, by exact HN5.out _, by exact HN6.out _⟩, by simp [intOf]; omega⟩
                · have hk' : ¬ (k : Int) < (le : Int) := by omega
                  obtain rfl : k = le := by omega
                  have c0 : wr.cell? ⟨W.heap.size, 0, none⟩ = some (.int .u8 4) := HR.out.cell (i := 0) (by decide)
                  have c1 : wr.cell? ⟨W.heap.size, 1, none⟩ = some (.slice none 0 0) := HR.out.cell (i := 1) (by decide)
                  have c2 : wr.cell? ⟨W.heap.size, 2, none⟩ = some (.slice none 0 0) := HR.out.cell (i := 2) (by decide)
                  have c3 : wr.cell? ⟨W.heap.size, 3, none⟩ = some (.int .i64 (FR : Int)) := HR.out.cell (i := 3) (by decide)
                  have c4 : wr.cell? ⟨W.heap.size, 4, none⟩ = some (.int .i64 (cnt : Int)) := HR.out.cell (i := 4) (by decide)
                  have c5 : wr.cell? ⟨W.heap.size, 5, none⟩ = some (.string (TX k)) := HR.out.cell (i := 5) (by decide)
                  have c6 : wr.cell? ⟨W.heap.size, 6, none⟩ = some (.slice none 0 0) := HR.out.cell (i := 6) (by decide)
                  have HANS : Hid (RO = (if cnt = 0 ∧ TX k = ⟨#[]⟩ then [] else [⟨FR, cnt, TX k⟩])) := by show _ = _; rw [← HRO.out]; unfold roL; rw [HCNT.out, HLE.out]
                  clear HR HT1 HB HA HE HCNT HLE HRO
                  have HLIT := Hid.mk' (fun u : Array Value => World.ownsRow_lit (base := w.heap.size) (e := 34) (size := 7) wr u 1 HW3.out.size (by unfold maxLen; omega))
                  by_cases hc : cnt = 0
                  · subst hc
                    by_cases ht : TX k = ⟨#[]⟩
                    · rw [ht] at c5
                      have HAN2 := Hid.mk' (HANS.out.trans (if_pos ⟨rfl, ht⟩))
                      clear HANS ht
                      go_wp2
                      go_ret
                      rw [HAN2.out]
                      exact ⟨_, rfl, World.ownsRow_nil _ _ _ _, HW3.out⟩
                    · have HAN2 := Hid.mk' (HANS.out.trans (if_neg (fun h => ht h.2)))
                      have hte := ba_ne ht
                      have hte2 : (TX k).toList.isEmpty = false := by
                        have := hte
                        simpa using this
                      clear HANS ht
                      generalize TX k = tx at *
                      go_wp2_with (first
                        | (with_reducible refine at_bs ?_; refine wpList_lit1 ei23 (.tmp 100) _ rfl rfl (.agg (patC FR 0 tx)) rfl rfl ?_)
                        | fail)
                      go_ret
                      rw [HAN2.out]
                      exact ⟨_, rfl, by have := HLIT.out (patC FR 0 tx) rfl; simpa [pV, patC] using this, HW3.out.alloc HW3.out.size _⟩
                  · have hc' : ¬ (cnt : Int) = 0 := by omega
                    have hc2 : ((cnt : Int) == 0) = false := by simp; omega
                    have HAN2 := Hid.mk' (HANS.out.trans (if_neg (fun h => hc h.1)))
                    clear hc hc'
                    clear HANS
                    generalize TX k = tx at *
                    go_wp2_with (first
                      | (with_reducible refine at_bs ?_; refine wpList_lit1 ei23 (.tmp 100) _ rfl rfl (.agg (patC FR cnt tx)) rfl rfl ?_)
                      | fail)
                    go_ret
                    rw [HAN2.out]
                    exact ⟨_, rfl, by have := HLIT.out (patC FR cnt tx) rfl; simpa [pV, patC] using this, HW3.out.alloc HW3.out.size _⟩

            · have r1' : (EN : Int) < (DA : Int) := by omega
              have r2' : ¬ (EN : Int) < (DB : Int) := by omega
              go_wp2
              go_quiet (fail)
              clear r1 r1'
              have HWd := Hid.mk' (below_drewN HW1.out nq)
              have hsz := Hid.mk' HWd.out.size
              generalize wr.drewN nq = W at *
              clear HW1
              try clear ca
              try clear cb
              try clear hse2
              try clear exa exb
              try clear r2'
              try clear r2
              try clear q2'
              try clear q2
              try clear q1'
              try clear q1
              go_wp2
              go_loopw [8] (fun i wr => ∃ k : Nat, FR ≤ k ∧ k ≤ le ∧ i = .int .i64 (k : Int) ∧ Hid (wr.rowIs W.heap.size 34 7 (fun j => (patC FR cnt (TX k)).getD j undef)) ∧ Hid (Below w.heap.size w wr)) (fun i _ => le - (intOf i).toNat)
              case atStart => exact ⟨FR, Nat.le_refl _, hleF, rfl, row_pat W FR cnt _ HT0.out, HWd.out.alloc hsz.out _⟩
              case round =>
                obtain ⟨k, hkF, hkl, rfl, HR, HW3⟩ := hrel
                clear HT0
                by_cases hk : k < le
                · have hk' : (k : Int) < (le : Int) := by omega
                  obtain ⟨gb, eb, cb⟩ := HB.out _ HW3.out k (by omega)
                  first | (subst eb) | (obtain rfl : gb = _ := by simpa using eb.symm)
                  dsimp only at cb
                  have c5 : wr.cell? ⟨W.heap.size, 5, none⟩ = some (.string (TX k)) := HR.out.cell (i := 5) (by decide)
                  have f5 := HR.out.frozen 5
                  have HN5 : Hid (∀ n, ((wr.drewN n).setCell ⟨W.heap.size, 5, none⟩ (.string (TX k ++ EV (bv k)))).rowIs W.heap.size 34 7 (fun j => (patC FR cnt (TX (k + 1))).getD j undef)) := fun n => row_pat5 HR.out n (HT1.out k hkF (by omega))
                  have HN6 : Hid (∀ n, Below w.heap.size w ((wr.drewN n).setCell ⟨W.heap.size, 5, none⟩ (.string (TX k ++ EV (bv k))))) := fun n => (below_drewN HW3.out n).setCell (p := ⟨W.heap.size, 5, none⟩) hsz.out _
                  clear HR HW3
                  have hz : (TX k).size + (EV (bv k)).size ≤ 8388612 := by have := HS1.out k (by omega); have := HS2.out (bv k); omega
                  generalize EV (bv k) = ev at *
                  generalize TX k = tx at *
                  go_wp2
                  go_region
                  all_goals go_wp2
                  all_goals exact ⟨⟨k + 1, by omega, by omega, by go_num, by exact HN5.out _, by exact HN6.out _⟩, by simp [intOf]; omega⟩
                · have hk' : ¬ (k : Int) < (le : Int) := by omega
                  obtain rfl : k = le := by omega
                  have c0 : wr.cell? ⟨W.heap.size, 0, none⟩ = some (.int .u8 4) := HR.out.cell (i := 0) (by decide)
                  have c1 : wr.cell? ⟨W.heap.size, 1, none⟩ = some (.slice none 0 0) := HR.out.cell (i := 1) (by decide)
                  have c2 : wr.cell? ⟨W.heap.size, 2, none⟩ = some (.slice none 0 0) := HR.out.cell (i := 2) (by decide)
                  have c3 : wr.cell? ⟨W.heap.size, 3, none⟩ = some (.int .i64 (FR : Int)) := HR.out.cell (i := 3) (by decide)
                  have c4 : wr.cell? ⟨W.heap.size, 4, none⟩ = some (.int .i64 (cnt : Int)) := HR.out.cell (i := 4) (by decide)
                  have c5 : wr.cell? ⟨W.heap.size, 5, none⟩ = some (.string (TX k)) := HR.out.cell (i := 5) (by decide)
                  have c6 : wr.cell? ⟨W.heap.size, 6, none⟩ = some (.slice none 0 0) := HR.out.cell (i := 6) (by decide)
                  have HANS : Hid (RO = (if cnt = 0 ∧ TX k = ⟨#[]⟩ then [] else [⟨FR, cnt, TX k⟩])) := by show _ = _; rw [← HRO.out]; unfold roL; rw [HCNT.out, HLE.out]
                  clear HR HT1 HB HA HE HCNT HLE HRO
                  have HLIT := Hid.mk' (fun u : Array Value => World.ownsRow_lit (base := w.heap.size) (e := 34) (size := 7) wr u 1 HW3.out.size (by unfold maxLen; omega))
                  by_cases hc : cnt = 0
                  · subst hc
                    by_cases ht : TX k = ⟨#[]⟩
                    · rw [ht] at c5
                      have HAN2 := Hid.mk' (HANS.out.trans (if_pos ⟨rfl, ht⟩))
                      clear HANS ht
                      go_wp2
                      go_ret
                      rw [HAN2.out]
                      exact ⟨_, rfl, World.ownsRow_nil _ _ _ _, HW3.out⟩
                    · have HAN2 := Hid.mk' (HANS.out.trans (if_neg (fun h => ht h.2)))
                      have hte := ba_ne ht
                      have hte2 : (TX k).toList.isEmpty = false := by
                        have := hte
                        simpa using this
                      clear HANS ht
                      generalize TX k = tx at *
                      go_wp2_with (first
                        | (with_reducible refine at_bs ?_; refine wpList_lit1 ei23 (.tmp 100) _ rfl rfl (.agg (patC FR 0 tx)) rfl rfl ?_)
                        | fail)
                      go_ret
                      rw [HAN2.out]
                      exact ⟨_, rfl, by have := HLIT.out (patC FR 0 tx) rfl; simpa [pV, patC] using this, HW3.out.alloc HW3.out.size _⟩
                  · have hc' : ¬ (cnt : Int) = 0 := by omega
                    have hc2 : ((cnt : Int) == 0) = false := by simp; omega
                    have HAN2 := Hid.mk' (HANS.out.trans (if_neg (fun h => hc h.1)))
                    clear hc hc'
                    clear HANS
                    generalize TX k = tx at *
                    go_wp2_with (first
                      | (with_reducible refine at_bs ?_; refine wpList_lit1 ei23 (.tmp 100) _ rfl rfl (.agg (patC FR cnt tx)) rfl rfl ?_)
                      | fail)
                    go_ret
                    rw [HAN2.out]
                    exact ⟨_, rfl, by have := HLIT.out (patC FR cnt tx) rfl; simpa [pV, patC] using this, HW3.out.alloc HW3.out.size _⟩

            · have r1' : (EN : Int) < (DA : Int) := by omega
              have r2' : (EN : Int) < (DB : Int) := by omega
              obtain ⟨xa, hxa⟩ : ∃ x, la - 1 - EN = x := ⟨_, rfl⟩
              obtain ⟨xb, hxb⟩ : ∃ x, lb - 1 - EN = x := ⟨_, rfl⟩
              have hdd := HDA.out
              have hdb := HDB.out
              have exa : (la : Int) - 1 - (EN : Int) = (xa : Int) := by omega
              have exb : (lb : Int) - 1 - (EN : Int) = (xb : Int) := by omega
              have lxa : xa < la := by omega
              have lxb : xb < lb := by omega
              clear hdd hdb
              obtain ⟨ga, ea, ca⟩ := HA.out _ HW1.out xa lxa
              obtain ⟨gb, eb, cb⟩ := HB.out _ HW1.out xb lxb
              first | (subst ea) | (obtain rfl : ga = _ := by simpa using ea.symm)
              first | (subst eb) | (obtain rfl : gb = _ := by simpa using eb.symm)
              dsimp only at ca cb
              rw [hxa, hxb] at hs
              have hse2 := ba_ne (fun e => hs ((HE.out xa xb lxa lxb).1 e))
              clear hs hxa hxb
              generalize EV (av xa) = ea at *
              generalize EV (bv xb) = eb at *
              go_wp2
              go_quiet (fail)
              clear r1 r1'
              have HWd := Hid.mk' (below_drewN HW1.out nq)
              have hsz := Hid.mk' HWd.out.size
              generalize wr.drewN nq = W at *
              clear HW1
              try clear ca
              try clear cb
              try clear hse2
              try clear exa exb
              try clear r2'
              try clear r2
              try clear q2'
              try clear q2
              try clear q1'
              try clear q1
              go_wp2
              go_loopw [8] (fun i wr => ∃ k : Nat, FR ≤ k ∧ k ≤ le ∧ i = .int .i64 (k : Int) ∧ Hid (wr.rowIs W.heap.size 34 7 (fun j => (patC FR cnt (TX k)).getD j undef)) ∧ Hid (Below w.heap.size w wr)) (fun i _ => le - (intOf i).toNat)
              case atStart => exact ⟨FR, Nat.le_refl _, hleF, rfl, row_pat W FR cnt _ HT0.out, HWd.out.alloc hsz.out _⟩
              case round =>
                obtain ⟨k, hkF, hkl, rfl, HR, HW3⟩ := hrel
                clear HT0
                by_cases hk : k < le
                · have hk' : (k : Int) < (le : Int) := by omega
                  obtain ⟨gb, eb, cb⟩ := HB.out _ HW3.out k (by omega)
                  first | (subst eb) | (obtain rfl : gb = _ := by simpa using eb.symm)
                  dsimp only at cb
                  have c5 : wr.cell? ⟨W.heap.size, 5, none⟩ = some (.string (TX k)) := HR.out.cell (i := 5) (by decide)
                  have f5 := HR.out.frozen 5
                  have HN5 : Hid (∀ n, ((wr.drewN n).setCell ⟨W.heap.size, 5, none⟩ (.string (TX k ++ EV (bv k)))).rowIs W.heap.size 34 7 (fun j => (patC FR cnt (TX (k + 1))).getD j undef)) := fun n => row_pat5 HR.out n (HT1.out k hkF (by omega))
                  have HN6 : Hid (∀ n, Below w.heap.size w ((wr.drewN n).setCell ⟨W.heap.size, 5, none⟩ (.string (TX k ++ EV (bv k))))) := fun n => (below_drewN HW3.out n).setCell (p := ⟨W.heap.size, 5, none⟩) hsz.out _
                  clear HR HW3
                  have hz : (TX k).size + (EV (bv k)).size ≤ 8388612 := by have := HS1.out k (by omega); have := HS2.out (bv k); omega
                  generalize EV (bv k) = ev at *
                  generalize TX k = tx at *
                  go_wp2
                  go_region
                  all_goals go_wp2
                  all_goals exact ⟨⟨k + 1, by omega, by omega, by go_num, by exact HN5.out _, by exact HN6.out _⟩, by simp [intOf]; omega⟩
                · have hk' : ¬ (k : Int) < (le : Int) := by omega
                  obtain rfl : k = le := by omega
                  have c0 : wr.cell? ⟨W.heap.size, 0, none⟩ = some (.int .u8 4) := HR.out.cell (i := 0) (by decide)
                  have c1 : wr.cell? ⟨W.heap.size, 1, none⟩ = some (.slice none 0 0) := HR.out.cell (i := 1) (by decide)
                  have c2 : wr.cell? ⟨W.heap.size, 2, none⟩ = some (.slice none 0 0) := HR.out.cell (i := 2) (by decide)
                  have c3 : wr.cell? ⟨W.heap.size, 3, none⟩ = some (.int .i64 (FR : Int)) := HR.out.cell (i := 3) (by decide)
                  have c4 : wr.cell? ⟨W.heap.size, 4, none⟩ = some (.int .i64 (cnt : Int)) := HR.out.cell (i := 4) (by decide)
                  have c5 : wr.cell? ⟨W.heap.size, 5, none⟩ = some (.string (TX k)) := HR.out.cell (i := 5) (by decide)
                  have c6 : wr.cell? ⟨W.heap.size, 6, none⟩ = some (.slice none 0 0) := HR.out.cell (i := 6) (by decide)
                  have HANS : Hid (RO = (if cnt = 0 ∧ TX k = ⟨#[]⟩ then [] else [⟨FR, cnt, TX k⟩])) := by show _ = _; rw [← HRO.out]; unfold roL; rw [HCNT.out, HLE.out]
                  clear HR HT1 HB HA HE HCNT HLE HRO
                  have HLIT := Hid.mk' (fun u : Array Value => World.ownsRow_lit (base := w.heap.size) (e := 34) (size := 7) wr u 1 HW3.out.size (by unfold maxLen; omega))
                  by_cases hc : cnt = 0
                  · subst hc
                    by_cases ht : TX k = ⟨#[]⟩
                    · rw [ht] at c5
                      have HAN2 := Hid.mk' (HANS.out.trans (if_pos ⟨rfl, ht⟩))
                      clear HANS ht
                      go_wp2
                      go_ret
                      rw [HAN2.out]
                      exact ⟨_, rfl, World.ownsRow_nil _ _ _ _, HW3.out⟩
                    · have HAN2 := Hid.mk' (HANS.out.trans (if_neg (fun h => ht h.2)))
                      have hte := ba_ne ht
                      have hte2 : (TX k).toList.isEmpty = false := by
                        have := hte
                        simpa using this
                      clear HANS ht
                      generalize TX k = tx at *
                      go_wp2_with (first
                        | (with_reducible refine at_bs ?_; refine wpList_lit1 ei23 (.tmp 100) _ rfl rfl (.agg (patC FR 0 tx)) rfl rfl ?_)
                        | fail)
                      go_ret
                      rw [HAN2.out]
                      exact ⟨_, rfl, by have := HLIT.out (patC FR 0 tx) rfl; simpa [pV, patC] using this, HW3.out.alloc HW3.out.size _⟩
                  · have hc' : ¬ (cnt : Int) = 0 := by omega
                    have hc2 : ((cnt : Int) == 0) = false := by simp; omega
                    have HAN2 := Hid.mk' (HANS.out.trans (if_neg (fun h => hc h.1)))
                    clear hc hc'
                    clear HANS
                    generalize TX k = tx at *
                    go_wp2_with (first
                      | (with_reducible refine at_bs ?_; refine wpList_lit1 ei23 (.tmp 100) _ rfl rfl (.agg (patC FR cnt tx)) rfl rfl ?_)
                      | fail)
                    go_ret
                    rw [HAN2.out]
                    exact ⟨_, rfl, by have := HLIT.out (patC FR cnt tx) rfl; simpa [pV, patC] using this, HW3.out.alloc HW3.out.size _⟩

      · have q1' : (FR : Int) < (la : Int) := by omega
        have q2' : (FR : Int) < (lb : Int) := by omega
        obtain ⟨ga, rfl, ca⟩ := HA.out _ HW.out FR q1
        obtain ⟨gb, rfl, cb⟩ := HB.out _ HW.out FR q2
        dsimp only at ca cb
        have hse2 := ba_ne (fun e => hs ((HE.out FR FR q1 q2).1 e))
        clear hs
        generalize EV (av FR) = ea at *
        generalize EV (bv FR) = eb at *
        go_wp2
        go_quiet (fail)
        go_wp2
        obtain ⟨DA, hDA⟩ : ∃ x, la - FR = x := ⟨_, rfl⟩
        obtain ⟨DB, hDB⟩ : ∃ x, lb - FR = x := ⟨_, rfl⟩
        have eda : (la : Int) - (FR : Int) = (DA : Int) := by omega
        have edb : (lb : Int) - (FR : Int) = (DB : Int) := by omega
        have hDA2 : DA ≤ la := by omega
        have hDB2 : DB ≤ lb := by omega
        have HDA := Hid.mk' hDA
        have HDB := Hid.mk' hDB
        rw [hDA] at hn1
        rw [hDB] at hn2
        clear hDA hDB
        go_loopw [6] (fun e wr => ∃ k : Nat, k ≤ DA ∧ k ≤ DB ∧ e = .int .i64 (k : Int) ∧ Hid (EN = enF la lb FR av bv (la - k) k) ∧ Hid (Below w.heap.size w wr)) (fun e _ => la - (intOf e).toNat)
        case atStart => exact ⟨0, by omega, by omega, rfl, HN, below_drewN HW.out _⟩
        case round =>
          obtain ⟨k, hk3, hk4, rfl, HK, HW1⟩ := hrel
          try clear ca cb hse2
          clear HN HW
          by_cases hgo : k < DA ∧ k < DB ∧ av (la - 1 - k) = bv (lb - 1 - k)
          · obtain ⟨r1, r2, hs⟩ := hgo
            have r1' : (k : Int) < (DA : Int) := by omega
            have r2' : (k : Int) < (DB : Int) := by omega
            obtain ⟨xa, hxa⟩ : ∃ x, la - 1 - k = x := ⟨_, rfl⟩
            obtain ⟨xb, hxb⟩ : ∃ x, lb - 1 - k = x := ⟨_, rfl⟩
            have hdd := HDA.out
            have hdb := HDB.out
            have exa : (la : Int) - 1 - (k : Int) = (xa : Int) := by omega
            have exb : (lb : Int) - 1 - (k : Int) = (xb : Int) := by omega
            have lxa : xa < la := by omega
            have lxb : xb < lb := by omega
            clear hdd hdb
            obtain ⟨ga, ea, ca⟩ := HA.out _ HW1.out xa lxa
            obtain ⟨gb, eb, cb⟩ := HB.out _ HW1.out xb lxb
            first | (subst ea) | (obtain rfl : ga = _ := by simpa using ea.symm)
            first | (subst eb) | (obtain rfl : gb = _ := by simpa using eb.symm)
            dsimp only at ca cb
            rw [hxa, hxb] at hs
            have hse : EV (av xa) = EV (bv xb) := by rw [hs]
            rw [hse] at ca
            have HK2 : Hid (EN = enF la lb FR av bv (la - (k + 1)) (k + 1)) := by show _ = _; rw [HK.out, enF_go (by rw [HDA.out]; exact r1) (by rw [HDB.out]; exact r2) (by rw [hxa, hxb]; exact hs)]
            clear HK hs hse hxa hxb
            generalize EV (bv xb) = eb at *
            go_wp2
            go_quiet (fail)
            go_wp2
            go_roundw
            case rel => exact ⟨k + 1, by omega, by omega, by go_num, HK2, below_drewN HW1.out _⟩
            case measure => simp [intOf]; omega
          · obtain rfl : EN = k := by rw [HK.out, enF_end (by rw [HDA.out, HDB.out]; exact hgo)]
            clear HK
            have H3 : (¬ EN < DA) ∨ (EN < DA ∧ ¬ EN < DB) ∨ (EN < DA ∧ EN < DB ∧ ¬ av (la - 1 - EN) = bv (lb - 1 - EN)) := by
              by_cases q1 : EN < DA
              · by_cases q2 : EN < DB
                · exact .inr (.inr ⟨q1, q2, fun e => hgo ⟨q1, q2, e⟩⟩)
                · exact .inr (.inl ⟨q1, q2⟩)
              · exact .inl q1
            clear hgo
            obtain ⟨cnt, hcnt⟩ : ∃ x, DA - EN = x := ⟨_, rfl⟩
            obtain ⟨le, hle⟩ : ∃ x, lb - EN = x := ⟨_, rfl⟩
            have ecnt : (DA : Int) - (EN : Int) = (cnt : Int) := by omega
            have hdb := HDB.out
            have ele : (lb : Int) - (EN : Int) = (le : Int) := by omega
            have hleF : FR ≤ le := by omega
            have hleB : le ≤ lb := by omega
            have hcl : cnt ≤ la := by omega
            have HCNT : Hid (la - FR - EN = cnt) := by show _ = _; rw [HDA.out]; exact hcnt
            have HLE := Hid.mk' hle
            clear hdb hcnt hle
            rcases H3 with r1 | ⟨r1, r2⟩ | ⟨r1, r2, hs⟩
            · have r1' : ¬ (EN : Int) < (DA : Int) := by omega
              go_wp2
              go_quiet (fail)
              clear r1 r1'
              have HWd := Hid.mk' (below_drewN HW1.out nq)
              have hsz := Hid.mk' HWd.out.size
              generalize wr.drewN nq = W at *
              clear HW1
              try clear ca
              try clear cb
              try clear hse2
              try clear exa exb
              try clear r2'
              try clear r2
              try clear q2'
              try clear q2
              try clear q1'
              try clear q1
              go_wp2
              go_loopw [8] (fun i wr => ∃ k : Nat, FR ≤ k ∧ k ≤ le ∧ i = .int .i64 (k : Int) ∧ Hid (wr.rowIs W.heap.size 34 7 (fun j => (patC FR cnt (TX k)).getD j undef)) ∧ Hid (Below w.heap.size w wr)) (fun i _ => le - (intOf i).toNat)
              case atStart => exact ⟨FR, Nat.le_refl _, hleF, rfl, row_pat W FR cnt _ HT0.out, HWd.out.alloc hsz.out _⟩
              case round =>
                obtain ⟨k, hkF, hkl, rfl, HR, HW3⟩ := hrel
                clear HT0
                by_cases hk : k < le
                · have hk' : (k : Int) < (le : Int) := by omega
                  obtain ⟨gb, eb, cb⟩ := HB.out _ HW3.out k (by omega)
                  first | (subst eb) | (obtain rfl : gb = _ := by simpa using eb.symm)
                  dsimp only at cb
                  have c5 : wr.cell? ⟨W.heap.size, 5, none⟩ = some (.string (TX k)) := HR.out.cell (i := 5) (by decide)
                  have f5 := HR.out.frozen 5
                  have HN5 : Hid (∀ n, ((wr.drewN n).setCell ⟨W.heap.size, 5, none⟩ (.string (TX k ++ EV (bv k)))).rowIs W.heap.size 34 7 (fun j => (patC FR cnt (TX (k + 1))).getD j undef)) := fun n => row_pat5 HR.out n (HT1.out k hkF (by omega))
                  have HN6 : Hid (∀ n, Below w.heap.size w ((wr.drewN n).setCell ⟨W.heap.size, 5, none⟩ (.string (TX k ++ EV (bv k))))) := fun n => (below_drewN HW3.out n).setCell (p := ⟨W.heap.size, 5, none⟩) hsz.out _
                  clear HR HW3
                  have hz : (TX k).size + (EV (bv k)).size ≤ 8388612 := by have := HS1.out k (by omega); have := HS2.out (bv k); omega
                  generalize EV (bv k) = ev at *
                  generalize TX k = tx at *
                  go_wp2
                  go_region
                  all_goals go_wp2
                  all_goals exact ⟨⟨k + 1, by omega, by omega, by go_num, by exact HN5.out _, by exact HN6.out _⟩, by simp [intOf]; omega⟩
                · have hk' : ¬ (k : Int) < (le : Int) := by omega
                  obtain rfl : k = le := by omega
                  have c0 : wr.cell? ⟨W.heap.size, 0, none⟩ = some (.int .u8 4) := HR.out.cell (i := 0) (by decide)
                  have c1 : wr.cell? ⟨W.heap.size, 1, none⟩ = some (.slice none 0 0) := HR.out.cell (i := 1) (by decide)
                  have c2 : wr.cell? ⟨W.heap.size, 2, none⟩ = some (.slice none 0 0) := HR.out.cell (i := 2) (by decide)
                  have c3 : wr.cell? ⟨W.heap.size, 3, none⟩ = some (.int .i64 (FR : Int)) := HR.out.cell (i := 3) (by decide)
                  have c4 : wr.cell? ⟨W.heap.size, 4, none⟩ = some (.int .i64 (cnt : Int)) := HR.out.cell (i := 4) (by decide)
                  have c5 : wr.cell? ⟨W.heap.size, 5, none⟩ = some (.string (TX k)) := HR.out.cell (i := 5) (by decide)
                  have c6 : wr.cell? ⟨W.heap.size, 6, none⟩ = some (.slice none 0 0) := HR.out.cell (i := 6) (by decide)
                  have HANS : Hid (RO = (if cnt = 0 ∧ TX k = ⟨#[]⟩ then [] else [⟨FR, cnt, TX k⟩])) := by show _ = _; rw [← HRO.out]; unfold roL; rw [HCNT.out, HLE.out]
                  clear HR HT1 HB HA HE HCNT HLE HRO
                  have HLIT := Hid.mk' (fun u : Array Value => World.ownsRow_lit (base := w.heap.size) (e := 34) (size := 7) wr u 1 HW3.out.size (by unfold maxLen; omega))
                  by_cases hc : cnt = 0
                  · subst hc
                    by_cases ht : TX k = ⟨#[]⟩
                    · rw [ht] at c5
                      have HAN2 := Hid.mk' (HANS.out.trans (if_pos ⟨rfl, ht⟩))
                      clear HANS ht
                      go_wp2
                      go_ret
                      rw [HAN2.out]
                      exact ⟨_, rfl, World.ownsRow_nil _ _ _ _, HW3.out⟩
                    · have HAN2 := Hid.mk' (HANS.out.trans (if_neg (fun h => ht h.2)))
                      have hte := ba_ne ht
                      have hte2 : (TX k).toList.isEmpty = false := by
                        have := hte
                        simpa using this
                      clear HANS ht
                      generalize TX k = tx at *
                      go_wp2_with (first
                        | (with_reducible refine at_bs ?_; refine wpList_lit1 ei23 (.tmp 100) _ rfl rfl (.agg (patC FR 0 tx)) rfl rfl ?_)
                        | fail)
                      go_ret
                      rw [HAN2.out]
                      exact ⟨_, rfl, by have := HLIT.out (patC FR 0 tx) rfl; simpa [pV, patC] using this, HW3.out.alloc HW3.out.size _⟩
                  · have hc' : ¬ (cnt : Int) = 0 := by omega
                    have hc2 : ((cnt : Int) == 0) = false := by simp; omega
                    have HAN2 := Hid.mk' (HANS.out.trans (if_neg (fun h => hc h.1)))
                    clear hc hc'
                    clear HANS
                    generalize TX k = tx at *
                    go_wp2_with (first
                      | (with_reducible refine at_bs ?_; refine wpList_lit1 ei23 (.tmp 100) _ rfl rfl (.agg (patC FR cnt tx)) rfl rfl ?_)
                      | fail)
                    go_ret
                    rw [HAN2.out]
                    exact ⟨_, rfl, by have := HLIT.out (patC FR cnt tx) rfl; simpa [pV, patC] using this, HW3.out.alloc HW3.out.size _⟩

            · have r1' : (EN : Int) < (DA : Int) := by omega
              have r2' : ¬ (EN : Int) < (DB : Int) := by omega
              go_wp2
              go_quiet (fail)
              clear r1 r1'
              have HWd := Hid.mk' (below_drewN HW1.out nq)
              have hsz := Hid.mk' HWd.out.size
              generalize wr.drewN nq = W at *
              clear HW1
              try clear ca
              try clear cb
              try clear hse2
              try clear exa exb
              try clear r2'
              try clear r2
              try clear q2'
              try clear q2
              try clear q1'
              try clear q1
              go_wp2
              go_loopw [8] (fun i wr => ∃ k : Nat, FR ≤ k ∧ k ≤ le ∧ i = .int .i64 (k : Int) ∧ Hid (wr.rowIs W.heap.size 34 7 (fun j => (patC FR cnt (TX k)).getD j undef)) ∧ Hid (Below w.heap.size w wr)) (fun i _ => le - (intOf i).toNat)
              case atStart => exact ⟨FR, Nat.le_refl _, hleF, rfl, row_pat W FR cnt _ HT0.out, HWd.out.alloc hsz.out _⟩
              case round =>
                obtain ⟨k, hkF, hkl, rfl, HR, HW3⟩ := hrel
                clear HT0
                by_cases hk : k < le
                · have hk' : (k : Int) < (le : Int) := by omega
                  obtain ⟨gb, eb, cb⟩ := HB.out _ HW3.out k (by omega)
                  first | (subst eb) | (obtain rfl : gb = _ := by simpa using eb.symm)
                  dsimp only at cb
                  have c5 : wr.cell? ⟨W.heap.size, 5, none⟩ = some (.string (TX k)) := HR.out.cell (i := 5) (by decide)
                  have f5 := HR.out.frozen 5
                  have HN5 : Hid (∀ n, ((wr.drewN n).setCell ⟨W.heap.size, 5, none⟩ (.string (TX k ++ EV (bv k)))).rowIs W.heap.size 34 7 (fun j => (patC FR cnt (TX (k + 1))).getD j undef)) := fun n => row_pat5 HR.out n (HT1.out k hkF (by omega))
                  have HN6 : Hid (∀ n, Below w.heap.size w ((wr.drewN n).setCell ⟨W.heap.size, 5, none⟩ (.string (TX k ++ EV (bv k))))) := fun n => (below_drewN HW3.out n).setCell (p := ⟨W.heap.size, 5, none⟩) hsz.out _
                  clear HR HW3
                  have hz : (TX k).size + (EV (bv k)).size ≤ 8388612 := by have := HS1.out k (by omega); have := HS2.out (bv k); omega
                  generalize EV (bv k) = ev at *
                  generalize TX k = tx at *
                  go_wp2
                  go_region
                  all_goals go_wp2
                  all_goals exact ⟨⟨k + 1, by omega, by omega, by go_num, by exact HN5.out _, by exact HN6.out _⟩, by simp [intOf]; omega⟩
                · have hk' : ¬ (k : Int) < (le : Int) := by omega
                  obtain rfl : k = le := by omega
                  have c0 : wr.cell? ⟨W.heap.size, 0, none⟩ = some (.int .u8 4) := HR.out.cell (i := 0) (by decide)
                  have c1 : wr.cell? ⟨W.heap.size, 1, none⟩ = some (.slice none 0 0) := HR.out.cell (i := 1) (by decide)
                  have c2 : wr.cell? ⟨W.heap.size, 2, none⟩ = some (.slice none 0 0) := HR.out.cell (i := 2) (by decide)
                  have c3 : wr.cell? ⟨W.heap.size, 3, none⟩ = some (.int .i64 (FR : Int)) := HR.out.cell (i := 3) (by decide)
                  have c4 : wr.cell? ⟨W.heap.size, 4, none⟩ = some (.int .i64 (cnt : Int)) := HR.out.cell (i := 4) (by decide)
                  have c5 : wr.cell? ⟨W.heap.size, 5, none⟩ = some (.string (TX k)) := HR.out.cell (i := 5) (by decide)
                  have c6 : wr.cell? ⟨W.heap.size, 6, none⟩ = some (.slice none 0 0) := HR.out.cell (i := 6) (by decide)
                  have HANS : Hid (RO = (if cnt = 0 ∧ TX k = ⟨#[]⟩ then [] else [⟨FR, cnt, TX k⟩])) := by show _ = _; rw [← HRO.out]; unfold roL; rw [HCNT.out, HLE.out]
                  clear HR HT1 HB HA HE HCNT HLE HRO
                  have HLIT := Hid.mk' (fun u : Array Value => World.ownsRow_lit (base := w.heap.size) (e := 34) (size := 7) wr u 1 HW3.out.size (by unfold maxLen; omega))
                  by_cases hc : cnt = 0
                  · subst hc
                    by_cases ht : TX k = ⟨#[]⟩
                    · rw [ht] at c5
                      have HAN2 := Hid.mk' (HANS.out.trans (if_pos ⟨rfl, ht⟩))
                      clear HANS ht
                      go_wp2
                      go_ret
                      rw [HAN2.out]
                      exact ⟨_, rfl, World.ownsRow_nil _ _ _ _, HW3.out⟩
                    · have HAN2 := Hid.mk' (HANS.out.trans (if_neg (fun h => ht h.2)))
                      have hte := ba_ne ht
                      have hte2 : (TX k).toList.isEmpty = false := by
                        have := hte
                        simpa using this
                      clear HANS ht
                      generalize TX k = tx at *
                      go_wp2_with (first
                        | (with_reducible refine at_bs ?_; refine wpList_lit1 ei23 (.tmp 100) _ rfl rfl (.agg (patC FR 0 tx)) rfl rfl ?_)
                        | fail)
                      go_ret
                      rw [HAN2.out]
                      exact ⟨_, rfl, by have := HLIT.out (patC FR 0 tx) rfl; simpa [pV, patC] using this, HW3.out.alloc HW3.out.size _⟩
                  · have hc' : ¬ (cnt : Int) = 0 := by omega
                    have hc2 : ((cnt : Int) == 0) = false := by simp; omega
                    have HAN2 := Hid.mk' (HANS.out.trans (if_neg (fun h => hc h.1)))
                    clear hc hc'
                    clear HANS
                    generalize TX k = tx at *
                    go_wp2_with (first
                      | (with_reducible refine at_bs ?_; refine wpList_lit1 ei23 (.tmp 100) _ rfl rfl (.agg (patC FR cnt tx)) rfl rfl ?_)
                      | fail)
                    go_ret
                    rw [HAN2.out]
                    exact ⟨_, rfl, by have := HLIT.out (patC FR cnt tx) rfl; simpa [pV, patC] using this, HW3.out.alloc HW3.out.size _⟩

            · have r1' : (EN : Int) < (DA : Int) := by omega
              have r2' : (EN : Int) < (DB : Int) := by omega
              obtain ⟨xa, hxa⟩ : ∃ x, la - 1 - EN = x := ⟨_, rfl⟩
              obtain ⟨xb, hxb⟩ : ∃ x, lb - 1 - EN = x := ⟨_, rfl⟩
              have hdd := HDA.out
              have hdb := HDB.out
              have exa : (la : Int) - 1 - (EN : Int) = (xa : Int) := by omega
              have exb : (lb : Int) - 1 - (EN : Int) = (xb : Int) := by omega
              have lxa : xa < la := by omega
              have lxb : xb < lb := by omega
              clear hdd hdb
              obtain ⟨ga, ea, ca⟩ := HA.out _ HW1.out xa lxa
              obtain ⟨gb, eb, cb⟩ := HB.out _ HW1.out xb lxb
              first | (subst ea) | (obtain rfl : ga = _ := by simpa using ea.symm)
              first | (subst eb) | (obtain rfl : gb = _ := by simpa using eb.symm)
              dsimp only at ca cb
              rw [hxa, hxb] at hs
              have hse2 := ba_ne (fun e => hs ((HE.out xa xb lxa lxb).1 e))
              clear hs hxa hxb
              generalize EV (av xa) = ea at *
              generalize EV (bv xb) = eb at *
              go_wp2
              go_quiet (fail)
              clear r1 r1'
              have HWd := Hid.mk' (below_drewN HW1.out nq)
              have hsz := Hid.mk' HWd.out.size
              generalize wr.drewN nq = W at *
              clear HW1
              try clear ca
              try clear cb
              try clear hse2
              try clear exa exb
              try clear r2'
              try clear r2
              try clear q2'
              try clear q2
              try clear q1'
              try clear q1
              go_wp2
              go_loopw [8] (fun i wr => ∃ k : Nat, FR ≤ k ∧ k ≤ le ∧ i = .int .i64 (k : Int) ∧ Hid (wr.rowIs W.heap.size 34 7 (fun j => (patC FR cnt (TX k)).getD j undef)) ∧ Hid (Below w.heap.size w wr)) (fun i _ => le - (intOf i).toNat)
              case atStart => exact ⟨FR, Nat.le_refl _, hleF, rfl, row_pat W FR cnt _ HT0.out, HWd.out.alloc hsz.out _⟩
              case round =>
                obtain ⟨k, hkF, hkl, rfl, HR, HW3⟩ := hrel
                clear HT0
                by_cases hk : k < le
                · have hk' : (k : Int) < (le : Int) := by omega
                  obtain ⟨gb, eb, cb⟩ := HB.out _ HW3.out k (by omega)
                  first | (subst eb) | (obtain rfl : gb = _ := by simpa using eb.symm)
                  dsimp only at cb
                  have c5 : wr.cell? ⟨W.heap.size, 5, none⟩ = some (.string (TX k)) := HR.out.cell (i := 5) (by decide)
                  have f5 := HR.out.frozen 5
                  have HN5 : Hid (∀ n, ((wr.drewN n).setCell ⟨W.heap.size, 5, none⟩ (.string (TX k ++ EV (bv k)))).rowIs W.heap.size 34 7 (fun j => (patC FR cnt (TX (k + 1))).getD j undef)) := fun n => row_pat5 HR.out n (HT1.out k hkF (by omega))
                  have HN6 : Hid (∀ n, Below w.heap.size w ((wr.drewN n).setCell ⟨W.heap.size, 5, none⟩ (.string (TX k ++ EV (bv k))))) := fun n => (below_drewN HW3.out n).setCell (p := ⟨W.heap.size, 5, none⟩) hsz.out _
                  clear HR HW3
                  have hz : (TX k).size + (EV (bv k)).size ≤ 8388612 := by have := HS1.out k (by omega); have := HS2.out (bv k); omega
                  generalize EV (bv k) = ev at *
                  generalize TX k = tx at *
                  go_wp2
                  go_region
                  all_goals go_wp2
                  all_goals exact ⟨⟨k + 1, by omega, by omega, by go_num, by exact HN5.out _, by exact HN6.out _⟩, by simp [intOf]; omega⟩
                · have hk' : ¬ (k : Int) < (le : Int) := by omega
                  obtain rfl : k = le := by omega
                  have c0 : wr.cell? ⟨W.heap.size, 0, none⟩ = some (.int .u8 4) := HR.out.cell (i := 0) (by decide)
                  have c1 : wr.cell? ⟨W.heap.size, 1, none⟩ = some (.slice none 0 0) := HR.out.cell (i := 1) (by decide)
                  have c2 : wr.cell? ⟨W.heap.size, 2, none⟩ = some (.slice none 0 0) := HR.out.cell (i := 2) (by decide)
                  have c3 : wr.cell? ⟨W.heap.size, 3, none⟩ = some (.int .i64 (FR : Int)) := HR.out.cell (i := 3) (by decide)
                  have c4 : wr.cell? ⟨W.heap.size, 4, none⟩ = some (.int .i64 (cnt : Int)) := HR.out.cell (i := 4) (by decide)
                  have c5 : wr.cell? ⟨W.heap.size, 5, none⟩ = some (.string (TX k)) := HR.out.cell (i := 5) (by decide)
                  have c6 : wr.cell? ⟨W.heap.size, 6, none⟩ = some (.slice none 0 0) := HR.out.cell (i := 6) (by decide)
                  have HANS : Hid (RO = (if cnt = 0 ∧ TX k = ⟨#[]⟩ then [] else [⟨FR, cnt, TX k⟩])) := by show _ = _; rw [← HRO.out]; unfold roL; rw [HCNT.out, HLE.out]
                  clear HR HT1 HB HA HE HCNT HLE HRO
                  have HLIT := Hid.mk' (fun u : Array Value => World.ownsRow_lit (base := w.heap.size) (e := 34) (size := 7) wr u 1 HW3.out.size (by unfold maxLen; omega))
                  by_cases hc : cnt = 0
                  · subst hc
                    by_cases ht : TX k = ⟨#[]⟩
                    · rw [ht] at c5
                      have HAN2 := Hid.mk' (HANS.out.trans (if_pos ⟨rfl, ht⟩))
                      clear HANS ht
                      go_wp2
                      go_ret
                      rw [HAN2.out]
                      exact ⟨_, rfl, World.ownsRow_nil _ _ _ _, HW3.out⟩
                    · have HAN2 := Hid.mk' (HANS.out.trans (if_neg (fun h => ht h.2)))
                      have hte := ba_ne ht
                      have hte2 : (TX k).toList.isEmpty = false := by
                        have := hte
                        simpa using this
                      clear HANS ht
                      generalize TX k = tx at *
                      go_wp2_with (first
                        | (with_reducible refine at_bs ?_; refine wpList_lit1 ei23 (.tmp 100) _ rfl rfl (.agg (patC FR 0 tx)) rfl rfl ?_)
                        | fail)
                      go_ret
                      rw [HAN2.out]
                      exact ⟨_, rfl, by have := HLIT.out (patC FR 0 tx) rfl; simpa [pV, patC] using this, HW3.out.alloc HW3.out.size _⟩
                  · have hc' : ¬ (cnt : Int) = 0 := by omega
                    have hc2 : ((cnt : Int) == 0) = false := by simp; omega
                    have HAN2 := Hid.mk' (HANS.out.trans (if_neg (fun h => hc h.1)))
                    clear hc hc'
                    clear HANS
                    generalize TX k = tx at *
                    go_wp2_with (first
                      | (with_reducible refine at_bs ?_; refine wpList_lit1 ei23 (.tmp 100) _ rfl rfl (.agg (patC FR cnt tx)) rfl rfl ?_)
                      | fail)
                    go_ret
                    rw [HAN2.out]
                    exact ⟨_, rfl, by have := HLIT.out (patC FR cnt tx) rfl; simpa [pV, patC] using this, HW3.out.alloc HW3.out.size _⟩

end Go.Proofs.YtefoipjbbfcjhaaDoor
