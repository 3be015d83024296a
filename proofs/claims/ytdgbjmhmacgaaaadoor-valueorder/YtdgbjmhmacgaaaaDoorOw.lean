import Derived.Test.YtdgbjmhmacgaaaaDoorOf
namespace Go.Proofs.YtdgbjmhmacgaaaaDoor
open Go.RowKit
set_option linter.unusedVariables false
set_option linter.unusedSimpArgs false

set_option maxRecDepth 100000 in
set_option maxHeartbeats 8000000 in
theorem order_all (k n : Int) (f : Nat) (s : ByteArray) (k' n' : Int) (f' : Nat) (s' : ByteArray) (k'' n'' : Int) (f'' : Nat) (s'' : ByteArray) (w : World) (hk : 0 ≤ k) (hf : f < 18446744073709551616) (hs : s.size ≤ 9223372036854775807) (hk' : 0 ≤ k') (hf' : f' < 18446744073709551616) (hs' : s'.size ≤ 9223372036854775807) (hk'' : 0 ≤ k'') (hf'' : f'' < 18446744073709551616) (hs'' : s''.size ≤ 9223372036854775807) (hT : Tabs w) :
    Calls Tryd.prog 8 #[.agg #[.int .u8 k, .int .i64 n, .float .f64 f, .string s], .agg #[.int .u8 k', .int .i64 n', .float .f64 f', .string s'], .agg #[.int .u8 k'', .int .i64 n'', .float .f64 f'', .string s'']] w fun e w' => e = .returned (.bool true) ∧ Below w.heap.size w w' := by
  have bx := bel_box3 w #[.int .u8 k, .int .i64 n, .float .f64 f, .string s] #[.int .u8 k', .int .i64 n', .float .f64 f', .string s'] #[.int .u8 k'', .int .i64 n'', .float .f64 f'', .string s''] 25 25 25
  have zW : w.heap.size + 2 < (((w.alloc (.cells #[.int .u8 k, .int .i64 n, .float .f64 f, .string s] 25)).alloc (.cells #[.int .u8 k', .int .i64 n', .float .f64 f', .string s'] 25)).alloc (.cells #[.int .u8 k'', .int .i64 n'', .float .f64 f'', .string s''] 25)).heap.size := by simp
  have hB := boxes3_new w k n f s k' n' f' s' k'' n'' f'' s''
  have hT0 := hT.below bx
  go_enter Tryd.func8, Tryd.ntmps8
  go_upto_region 1 with fail
  generalize (((w.alloc (.cells #[.int .u8 k, .int .i64 n, .float .f64 f, .string s] 25)).alloc (.cells #[.int .u8 k', .int .i64 n', .float .f64 f', .string s'] 25)).alloc (.cells #[.int .u8 k'', .int .i64 n'', .float .f64 f'', .string s''] 25)) = W at *
  have H0 : Hid (Calls Tryd.prog 13 #[.agg #[.int .u8 2, .int .i64 1, .float .f64 0, .string ⟨#[]⟩], .agg #[.int .u8 2, .int .i64 2, .float .f64 0, .string ⟨#[]⟩]] W fun e w' => e = .returned (.int .i64 (-1)) ∧ Below W.heap.size W w') := (compare_any 2 1 0 ⟨#[]⟩ 2 2 0 ⟨#[]⟩ W (by decide) (by decide) (by decide) (by decide) (by decide) (by decide) hT0).mono fun e w' h => ⟨by rw [h.1, one_two], h.2⟩
  have RA : Hid (∀ wx, Below W.heap.size W wx → Calls Tryd.prog 10 #[.agg #[.int .u8 k, .int .i64 n, .float .f64 f, .string s]] wx fun e w' => e = .returned (.int .i64 (errV (rightV k n f s))) ∧ Below W.heap.size W w') := fun wx hx => (rright_any k n f s wx hk hf hs).mono fun e w' h => ⟨h.1, hx.trans (h.2.mono hx.size)⟩
  have RB : Hid (∀ wx, Below W.heap.size W wx → Calls Tryd.prog 10 #[.agg #[.int .u8 k', .int .i64 n', .float .f64 f', .string s']] wx fun e w' => e = .returned (.int .i64 (errV (rightV k' n' f' s'))) ∧ Below W.heap.size W w') := fun wx hx => (rright_any k' n' f' s' wx hk' hf' hs').mono fun e w' h => ⟨h.1, hx.trans (h.2.mono hx.size)⟩
  have RC : Hid (∀ wx, Below W.heap.size W wx → Calls Tryd.prog 10 #[.agg #[.int .u8 k'', .int .i64 n'', .float .f64 f'', .string s'']] wx fun e w' => e = .returned (.int .i64 (errV (rightV k'' n'' f'' s''))) ∧ Below W.heap.size W w') := fun wx hx => (rright_any k'' n'' f'' s'' wx hk'' hf'' hs'').mono fun e w' h => ⟨h.1, hx.trans (h.2.mono hx.size)⟩
  have CX : Hid (∀ wx, Below W.heap.size W wx → Calls Tryd.prog 13 #[.agg #[.int .u8 k, .int .i64 n, .float .f64 f, .string s], .agg #[.int .u8 k', .int .i64 n', .float .f64 f', .string s']] wx fun e w' => e = .returned (.int .i64 (cmpV k n f s k' n' f' s')) ∧ Below W.heap.size W w') := fun wx hx => (compare_any k n f s k' n' f' s' wx hk hf hs hk' hf' hs' (hT0.below hx)).mono fun e w' h => ⟨h.1, hx.trans (h.2.mono hx.size)⟩
  have CY : Hid (∀ wx, Below W.heap.size W wx → Calls Tryd.prog 13 #[.agg #[.int .u8 k', .int .i64 n', .float .f64 f', .string s'], .agg #[.int .u8 k'', .int .i64 n'', .float .f64 f'', .string s'']] wx fun e w' => e = .returned (.int .i64 (cmpV k' n' f' s' k'' n'' f'' s'')) ∧ Below W.heap.size W w') := fun wx hx => (compare_any k' n' f' s' k'' n'' f'' s'' wx hk' hf' hs' hk'' hf'' hs'' (hT0.below hx)).mono fun e w' h => ⟨h.1, hx.trans (h.2.mono hx.size)⟩
  have CZ : Hid (∀ wx, Below W.heap.size W wx → Calls Tryd.prog 13 #[.agg #[.int .u8 k, .int .i64 n, .float .f64 f, .string s], .agg #[.int .u8 k'', .int .i64 n'', .float .f64 f'', .string s'']] wx fun e w' => e = .returned (.int .i64 (cmpV k n f s k'' n'' f'' s'')) ∧ Below W.heap.size W w') := fun wx hx => (compare_any k n f s k'' n'' f'' s'' wx hk hf hs hk'' hf'' hs'' (hT0.below hx)).mono fun e w' h => ⟨h.1, hx.trans (h.2.mono hx.size)⟩
  have CN : Hid (∀ wx, Below W.heap.size W wx → Calls Tryd.prog 13 #[.agg #[.int .u8 k', .int .i64 n', .float .f64 f', .string s'], .agg #[.int .u8 k, .int .i64 n, .float .f64 f, .string s]] wx fun e w' => e = .returned (.int .i64 (cmpV k' n' f' s' k n f s)) ∧ Below W.heap.size W w') := fun wx hx => (compare_any k' n' f' s' k n f s wx hk' hf' hs' hk hf hs (hT0.below hx)).mono fun e w' h => ⟨h.1, hx.trans (h.2.mono hx.size)⟩
  have CS : Hid (∀ wx, Below W.heap.size W wx → Calls Tryd.prog 22 #[.agg #[.int .u8 k, .int .i64 n, .float .f64 f, .string s], .agg #[.int .u8 k', .int .i64 n', .float .f64 f', .string s']] wx fun e w' => e = .returned (.bool (sameB k n f s k' n' f' s')) ∧ Below W.heap.size W w') := fun wx hx => (same_any k n f s k' n' f' s' wx).mono fun e w' h => ⟨h.1, hx.trans (h.2.mono hx.size)⟩
  have OF : Hid (rightV k n f s = true → rightV k' n' f' s' = true → rightV k'' n'' f'' s'' = true → cmpV k' n' f' s' k n f s = - cmpV k n f s k' n' f' s' ∧ sameB k n f s k' n' f' s' = decide (cmpV k n f s k' n' f' s' = 0) ∧ ¬ (cmpV k n f s k' n' f' s' ≤ 0 ∧ cmpV k' n' f' s' k'' n'' f'' s'' ≤ 0 ∧ 0 < cmpV k n f s k'' n'' f'' s'') ∧ ¬ (cmpV k n f s k' n' f' s' < 0 ∧ cmpV k' n' f' s' k'' n'' f'' s'' ≤ 0 ∧ 0 ≤ cmpV k n f s k'' n'' f'' s'')) := fun h h' h'' => order_facts k n f s k' n' f' s' k'' n'' f'' s'' h h' h'' hf hf'
  have bX := cmpV_bd k n f s k' n' f' s'
  have HS : Hid (∀ wx, Below W.heap.size W wx → wx.cell? ⟨w.heap.size, 0, none⟩ = some (.int .u8 k) ∧ wx.cell? ⟨w.heap.size, 1, none⟩ = some (.int .i64 n) ∧ wx.cell? ⟨w.heap.size, 2, none⟩ = some (.float .f64 f) ∧ wx.cell? ⟨w.heap.size, 3, none⟩ = some (.string s) ∧ wx.cell? ⟨w.heap.size + 1, 0, none⟩ = some (.int .u8 k') ∧ wx.cell? ⟨w.heap.size + 1, 1, none⟩ = some (.int .i64 n') ∧ wx.cell? ⟨w.heap.size + 1, 2, none⟩ = some (.float .f64 f') ∧ wx.cell? ⟨w.heap.size + 1, 3, none⟩ = some (.string s') ∧ wx.cell? ⟨w.heap.size + 2, 0, none⟩ = some (.int .u8 k'') ∧ wx.cell? ⟨w.heap.size + 2, 1, none⟩ = some (.int .i64 n'') ∧ wx.cell? ⟨w.heap.size + 2, 2, none⟩ = some (.float .f64 f'') ∧ wx.cell? ⟨w.heap.size + 2, 3, none⟩ = some (.string s'')) := fun wx hx => (hB.below zW hx).all
  generalize cmpV k n f s k' n' f' s' = X at *
  generalize cmpV k' n' f' s' k'' n'' f'' s'' = Y at *
  generalize cmpV k n f s k'' n'' f'' s'' = Z at *
  generalize cmpV k' n' f' s' k n f s = N at *
  generalize sameB k n f s k' n' f' s' = Q at *
  generalize rightV k n f s = V1 at *
  generalize rightV k' n' f' s' = V2 at *
  generalize rightV k'' n'' f'' s'' = V3 at *
  clear hf hs hf' hs' hf'' hs'' hT hT0 hB hk hk' hk''
  go_wp2_with fail
  refine H0.out.mono ?_
  rintro e w1 ⟨rfl, b1⟩
  clear H0
  obtain ⟨m0, m1, m2, m3, m4, m5, m6, m7, m8, m9, m10, m11⟩ := HS.out _ b1
  go_wp2_with fail
  refine (RA.out _ b1).mono ?_
  rintro e w2 ⟨rfl, b2⟩
  clear m0 m1 m2 m3 m4 m5 m6 m7 m8 m9 m10 m11
  cases V1 with
  | false =>
    have e1 : errV false = 30 := rfl
    rw [e1]
    clear RA RB RC CX CY CZ CN CS OF HS
    go_wp2
    go_ret
    exact ⟨rfl, bx.trans (b2.mono (by omega))⟩
  | true =>
    have e1 : errV true = 0 := rfl
    rw [e1]
    obtain ⟨m0, m1, m2, m3, m4, m5, m6, m7, m8, m9, m10, m11⟩ := HS.out _ b2
    go_wp2_with fail
    refine (RB.out _ b2).mono ?_
    rintro e w3 ⟨rfl, b3⟩
    clear m0 m1 m2 m3 m4 m5 m6 m7 m8 m9 m10 m11
    cases V2 with
    | false =>
      have e2 : errV false = 30 := rfl
      rw [e2]
      clear RA RB RC CX CY CZ CN CS OF HS
      go_wp2
      go_ret
      exact ⟨rfl, bx.trans (b3.mono (by omega))⟩
    | true =>
      rw [e1]
      obtain ⟨m0, m1, m2, m3, m4, m5, m6, m7, m8, m9, m10, m11⟩ := HS.out _ b3
      go_wp2_with fail
      refine (RC.out _ b3).mono ?_
      rintro e w4 ⟨rfl, b4⟩
      clear m0 m1 m2 m3 m4 m5 m6 m7 m8 m9 m10 m11
      cases V3 with
      | false =>
        have e2 : errV false = 30 := rfl
        rw [e2]
        clear RA RB RC CX CY CZ CN CS OF HS
        go_wp2
        go_ret
        exact ⟨rfl, bx.trans (b4.mono (by omega))⟩
      | true =>
        rw [e1]
        have O := OF.out (by trivial) (by trivial) (by trivial)
        obtain ⟨o1, o2, o3, o4⟩ := O
        subst o1 o2
        clear RA RB RC OF b1 b2 b3
        have HS4 := HS.out _ b4
        go_upto_region 5 with fail
        obtain ⟨m0, m1, m2, m3, m4, m5, m6, m7, m8, m9, m10, m11⟩ := HS4
        go_region_held3 (fun w' => w'.cell? ⟨w.heap.size, 0, none⟩ = some (.int .u8 k) ∧ w'.cell? ⟨w.heap.size, 1, none⟩ = some (.int .i64 n) ∧ w'.cell? ⟨w.heap.size, 2, none⟩ = some (.float .f64 f) ∧ w'.cell? ⟨w.heap.size, 3, none⟩ = some (.string s) ∧ w'.cell? ⟨w.heap.size + 1, 0, none⟩ = some (.int .u8 k') ∧ w'.cell? ⟨w.heap.size + 1, 1, none⟩ = some (.int .i64 n') ∧ w'.cell? ⟨w.heap.size + 1, 2, none⟩ = some (.float .f64 f') ∧ w'.cell? ⟨w.heap.size + 1, 3, none⟩ = some (.string s') ∧ w'.cell? ⟨w.heap.size + 2, 0, none⟩ = some (.int .u8 k'') ∧ w'.cell? ⟨w.heap.size + 2, 1, none⟩ = some (.int .i64 n'') ∧ w'.cell? ⟨w.heap.size + 2, 2, none⟩ = some (.float .f64 f'') ∧ w'.cell? ⟨w.heap.size + 2, 3, none⟩ = some (.string s'')) (first | assumption | go_keep) (first
          | (go_at_call_of 13 s; go_at_call_of 13 s'; refine (CX.out _ ?_).mono ?_; (first | exact b4 | exact below_drewN b4 _ | exact (below_drewN b4 _).drew); rintro e w5 ⟨rfl, b5⟩; have s5 := HS.out _ b5)
          | (go_at_call_of 13 s'; go_at_call_of 13 s''; refine (CY.out _ ?_).mono ?_; (first | exact b5 | exact below_drewN b5 _ | exact (below_drewN b5 _).drew); rintro e w6 ⟨rfl, b6⟩; have s6 := HS.out _ b6)
          | (go_at_call_of 13 s; go_at_call_of 13 s''; refine (CZ.out _ ?_).mono ?_; (first | exact b6 | exact below_drewN b6 _ | exact (below_drewN b6 _).drew); rintro e w7 ⟨rfl, b7⟩; have s7 := HS.out _ b7))
        clear CX CY CZ b4 b5 b6
        have bw7 : Below w.heap.size w w7 := bx.trans (b7.mono (by omega))
        clear s7 bw7
        clear m0 m1 m2 m3 m4 m5 m6 m7 m8 m9 m10 m11
        rcases (show X = -1 ∨ X = 0 ∨ X = 1 by omega) with rfl | rfl | rfl
        · by_cases hY : Y ≤ 0
          · have hZ1 : ¬ 0 < Z := fun h => o3 ⟨by omega, hY, h⟩
            have hZ2 : ¬ 0 ≤ Z := fun h => o4 ⟨by omega, hY, h⟩
            clear o3 o4
            obtain ⟨m0, m1, m2, m3, m4, m5, m6, m7, m8, m9, m10, m11⟩ := HS.out _ b7
            go_wp2_with fail
            refine (CN.out _ b7).mono ?_
            rintro e w8 ⟨rfl, b8⟩
            clear m0 m1 m2 m3 m4 m5 m6 m7 m8 m9 m10 m11
            obtain ⟨m0, m1, m2, m3, m4, m5, m6, m7, m8, m9, m10, m11⟩ := HS.out _ b8
            go_wp2_with fail
            refine (CS.out _ b8).mono ?_
            rintro e w9 ⟨rfl, b9⟩
            clear m0 m1 m2 m3 m4 m5 m6 m7 m8 m9 m10 m11
            clear CN CS HS
            go_wp2
            go_ret
            refine ⟨?_, bx.trans (b9.mono (by omega))⟩
            first | rfl | (show Ending.returned (.bool (!decide (0 < Z) && !decide (0 ≤ Z))) = _; rw [decide_eq_false hZ1, decide_eq_false hZ2]; rfl) | (show Ending.returned (.bool (!decide (0 < Z))) = _; rw [decide_eq_false hZ1]; rfl) | (simp [*]; done)
          · clear o3 o4
            obtain ⟨m0, m1, m2, m3, m4, m5, m6, m7, m8, m9, m10, m11⟩ := HS.out _ b7
            go_wp2_with fail
            refine (CN.out _ b7).mono ?_
            rintro e w8 ⟨rfl, b8⟩
            clear m0 m1 m2 m3 m4 m5 m6 m7 m8 m9 m10 m11
            obtain ⟨m0, m1, m2, m3, m4, m5, m6, m7, m8, m9, m10, m11⟩ := HS.out _ b8
            go_wp2_with fail
            refine (CS.out _ b8).mono ?_
            rintro e w9 ⟨rfl, b9⟩
            clear m0 m1 m2 m3 m4 m5 m6 m7 m8 m9 m10 m11
            clear CN CS HS
            go_wp2
            go_ret
            refine ⟨?_, bx.trans (b9.mono (by omega))⟩
            first | rfl | (show Ending.returned (.bool (!decide (0 < Z) && !decide (0 ≤ Z))) = _; rw [decide_eq_false hZ1, decide_eq_false hZ2]; rfl) | (show Ending.returned (.bool (!decide (0 < Z))) = _; rw [decide_eq_false hZ1]; rfl) | (simp [*]; done)
        · by_cases hY : Y ≤ 0
          · have hZ1 : ¬ 0 < Z := fun h => o3 ⟨by omega, hY, h⟩
            clear o3 o4
            obtain ⟨m0, m1, m2, m3, m4, m5, m6, m7, m8, m9, m10, m11⟩ := HS.out _ b7
            go_wp2_with fail
            refine (CN.out _ b7).mono ?_
            rintro e w8 ⟨rfl, b8⟩
            clear m0 m1 m2 m3 m4 m5 m6 m7 m8 m9 m10 m11
            obtain ⟨m0, m1, m2, m3, m4, m5, m6, m7, m8, m9, m10, m11⟩ := HS.out _ b8
            go_wp2_with fail
            refine (CS.out _ b8).mono ?_
            rintro e w9 ⟨rfl, b9⟩
            clear m0 m1 m2 m3 m4 m5 m6 m7 m8 m9 m10 m11
            clear CN CS HS
            go_wp2
            go_ret
            refine ⟨?_, bx.trans (b9.mono (by omega))⟩
            first | rfl | (show Ending.returned (.bool (!decide (0 < Z) && !decide (0 ≤ Z))) = _; rw [decide_eq_false hZ1, decide_eq_false hZ2]; rfl) | (show Ending.returned (.bool (!decide (0 < Z))) = _; rw [decide_eq_false hZ1]; rfl) | (simp [*]; done)
          · clear o3 o4
            obtain ⟨m0, m1, m2, m3, m4, m5, m6, m7, m8, m9, m10, m11⟩ := HS.out _ b7
            go_wp2_with fail
            refine (CN.out _ b7).mono ?_
            rintro e w8 ⟨rfl, b8⟩
            clear m0 m1 m2 m3 m4 m5 m6 m7 m8 m9 m10 m11
            obtain ⟨m0, m1, m2, m3, m4, m5, m6, m7, m8, m9, m10, m11⟩ := HS.out _ b8
            go_wp2_with fail
            refine (CS.out _ b8).mono ?_
            rintro e w9 ⟨rfl, b9⟩
            clear m0 m1 m2 m3 m4 m5 m6 m7 m8 m9 m10 m11
            clear CN CS HS
            go_wp2
            go_ret
            refine ⟨?_, bx.trans (b9.mono (by omega))⟩
            first | rfl | (show Ending.returned (.bool (!decide (0 < Z) && !decide (0 ≤ Z))) = _; rw [decide_eq_false hZ1, decide_eq_false hZ2]; rfl) | (show Ending.returned (.bool (!decide (0 < Z))) = _; rw [decide_eq_false hZ1]; rfl) | (simp [*]; done)
        · clear o3 o4
          obtain ⟨m0, m1, m2, m3, m4, m5, m6, m7, m8, m9, m10, m11⟩ := HS.out _ b7
          go_wp2_with fail
          refine (CN.out _ b7).mono ?_
          rintro e w8 ⟨rfl, b8⟩
          clear m0 m1 m2 m3 m4 m5 m6 m7 m8 m9 m10 m11
          obtain ⟨m0, m1, m2, m3, m4, m5, m6, m7, m8, m9, m10, m11⟩ := HS.out _ b8
          go_wp2_with fail
          refine (CS.out _ b8).mono ?_
          rintro e w9 ⟨rfl, b9⟩
          clear m0 m1 m2 m3 m4 m5 m6 m7 m8 m9 m10 m11
          clear CN CS HS
          go_wp2
          go_ret
          refine ⟨?_, bx.trans (b9.mono (by omega))⟩
          first | rfl | (show Ending.returned (.bool (!decide (0 < Z) && !decide (0 ≤ Z))) = _; rw [decide_eq_false hZ1, decide_eq_false hZ2]; rfl) | (show Ending.returned (.bool (!decide (0 < Z))) = _; rw [decide_eq_false hZ1]; rfl) | (simp [*]; done)
end Go.Proofs.YtdgbjmhmacgaaaaDoor
