import Derived.Test.YtcpkdaebeopmaaaDoorRx
namespace Go.Proofs.YtcpkdaebeopmaaaDoor
open Go.RowKit
set_option linter.unusedVariables false
set_option linter.unusedSimpArgs false

theorem res14 (tmps : Array Value) (w : World) (a b c d : Value) (h1 : tmps.getD 2 undef = a) (h2 : tmps.getD 3 undef = b) (h3 : tmps.getD 4 undef = c) (h4 : tmps.getD 5 undef = d) : (results Tryd.f14 tmps).run Tryd.prog w = .ok (.tuple #[a, b, c, d]) w := by
  subst h1 h2 h3 h4
  simp [results, Tryd.results14]
theorem byt_part {w : World} {b off j m : Nat} {x : List UInt8} {n : Nat} (hl : x.length = n) (hc : ∀ j, j < n → w.cell? ⟨b, off + j, none⟩ = some (.int .u8 (at8 x j))) (h : j + m ≤ n) : Byt w (some ⟨b, off + j, none⟩) ((x.drop j).take m) :=
  .inr ⟨b, off + j, rfl, fun i hi => by
    have hi' : i < m := by simp at hi; omega
    rw [at8_take _ _ _ hi', at8_drop, Nat.add_assoc]
    exact hc (j + i) (by omega)⟩
theorem cells_below {w w' : World} {b off n base : Nat} {x : List UInt8} (hc : ∀ j, j < n → w.cell? ⟨b, off + j, none⟩ = some (.int .u8 (at8 x j))) (hb : Below base w w') (hbl : n ≠ 0 → b < base) : ∀ j, j < n → w'.cell? ⟨b, off + j, none⟩ = some (.int .u8 (at8 x j)) := fun j hj =>
  (hb.cell (p := ⟨b, off + j, none⟩) (hbl (by omega))).trans (hc j hj)

set_option maxRecDepth 100000 in
set_option maxHeartbeats 4000000 in
theorem ropen_any (a : Option Addr) (x : List UInt8) (n cap : Nat) (w : World) (hl : x.length = n) (hcap : n ≤ cap) (hn : n ≤ 140737488355328) (hb : Byt w a x) :
    Calls Tryd.prog 14 #[.slice a n cap] w fun e w' => ∃ (k : Int) (v : Value) (m : Int), e = .returned (.tuple #[.int .u8 k, v, .int .i64 m, .int .i64 (openE x : Int)]) ∧ Below w.heap.size w w' ∧
      (openE x = 0 → k = at8 x 0 ∧ m = 9 + (rd x 1 : Int) + 4 ∧ OwnB w' w.heap.size v ((x.drop 9).take (rd x 1))) ∧ (openE x ≠ 0 → k = 0 ∧ v = .slice none 0 0 ∧ m = 0) := by
  by_cases h9 : n < 9
  · have HE : Hid (openE x = 20) := by show _ = _; unfold openE; rw [hl, if_pos h9]
    have h9' : (n : Int) < 9 := by omega
    go_enter Tryd.func14, Tryd.ntmps14
    go_wp2
    exact bodyPost_ret (res14 _ _ _ _ _ _ rfl rfl rfl rfl) rfl ⟨_, _, _, tup_ret rfl rfl rfl (by rw [HE.out]; rfl), Below.refl _ _, (fun h => by rw [HE.out] at h; omega), fun _ => ⟨rfl, rfl, rfl⟩⟩
  rcases hb with rfl | ⟨b, off, rfl, hc⟩
  · simp at hl; omega
  rw [hl] at hc
  have hbw : b < w.heap.size := block_lt_of_cell (hc 0 (by omega))
  have h9' : ¬ (n : Int) < 9 := by omega
  have s9 := slice_to b off n cap 9 (by omega) hcap (by omega)
  simp only [Int.cast_ofNat_Int] at s9
  have s5 := slice_to b off n cap 5 (by omega) hcap (by omega)
  simp only [Int.cast_ofNat_Int] at s5
  have L9 : (x.take 9).length = 9 := by simp; omega
  have HN : Hid (Calls Tryd.prog 56 #[.slice (some ⟨b, off, none⟩) 9 cap] w fun e w' => ∃ q, e = .returned (.pointer (some ⟨q, 0, none⟩)) ∧ RRAt w' q w.heap.size (x.take 9) 0 ∧ Below w.heap.size w w') := rnew_any (some ⟨b, off, none⟩) (x.take 9) 9 cap w L9 (by simpa using byt_part (j := 0) (m := 9) hl hc (by omega)) (by omega)
  have HC : Hid (∀ j, j < n → w.cell? ⟨b, off + j, none⟩ = some (.int .u8 (at8 x j))) := hc
  clear hc
  obtain ⟨L, hL⟩ : ∃ L, L = rd x 1 := ⟨_, rfl⟩
  have rlt := rd_lt x 1
  rw [← hL] at rlt ⊢
  have HLL : Hid (L = rd x 1) := hL
  clear hL
  have T1 : rd (x.take 9) 1 = L := by rw [rd_take _ _ _ (by omega)]; exact HLL.out.symm
  have T5 : rd (x.take 9) 5 = rd x 5 := rd_take _ _ _ (by omega)
  have T0 : at8 (x.take 9) 0 = at8 x 0 := at8_take _ _ _ (by omega)
  go_enter Tryd.func14, Tryd.ntmps14
  go_wp2_with fail
  refine HN.out.mono ?_
  rintro e w1 ⟨q, rfl, r1, b1⟩
  clear HN s9
  go_wp2_with fail
  refine (rrbyte_any q w.heap.size (x.take 9) 0 w1 r1 (by omega) (by omega)).mono ?_
  rintro e w2 ⟨rfl, r2, b2⟩
  rw [T0]
  have b2' := b1.trans b2
  clear r1 b1 b2 T0
  go_wp2_with fail
  refine (rrfix_any q w.heap.size (x.take 9) 1 w2 r2 (by omega) (by omega)).mono ?_
  rintro e w3 ⟨rfl, r3, b3⟩
  rw [T1]
  have b3' := b2'.trans b3
  clear r2 b2' b3 T1
  go_wp2_with fail
  refine (rrfix_any q w.heap.size (x.take 9) 5 w3 r3 (by omega) (by omega)).mono ?_
  rintro e w4 ⟨rfl, r4, b4⟩
  rw [T5]
  have b4' := b3'.trans b4
  clear r3 b3' b4 T5
  have L5 : (x.take 5).length = 5 := by simp; omega
  have HC4 : Hid (∀ j, j < n → w4.cell? ⟨b, off + j, none⟩ = some (.int .u8 (at8 x j))) := cells_below HC.out b4' (fun _ => hbw)
  have KC : Hid (Calls Tryd.prog 34 #[.slice (some ⟨b, off, none⟩) 5 cap] w4 fun e w' => e = .returned (.int .u32 (U (crc (x.take 5)))) ∧ w' = w4) := rcrc_at 5 (some ⟨b, off, none⟩) (x.take 5) cap w4 L5 (by simpa using byt_part (j := 0) (m := 5) hl HC4.out (by omega)) (by omega)
  clear r4 HC
  go_wp2_with fail
  refine KC.out.mono ?_
  rintro e W4 ⟨rfl, rfl⟩
  clear KC s5
  by_cases h5 : rd x 5 = (crc (x.take 5)).toNat
  · have q5 : ((rd x 5 : Int) != U (crc (x.take 5))) = false := by unfold U; rw [h5]; simp
    by_cases h6 : 16777216 < L
    · have HE : Hid (openE x = 6) := by show _ = _; unfold openE; rw [hl, if_neg h9, if_neg (fun e => e h5), ← HLL.out, if_pos h6]
      have h6' : (16777216 : Int) < (L : Int) := by omega
      go_wp2
      exact bodyPost_ret (res14 _ _ _ _ _ _ rfl rfl rfl rfl) rfl ⟨_, _, _, tup_ret rfl rfl rfl (by rw [HE.out]; rfl), b4', (fun h => by rw [HE.out] at h; omega), fun _ => ⟨rfl, rfl, rfl⟩⟩
    have h6' : ¬ (16777216 : Int) < (L : Int) := by omega
    by_cases h7 : n < 9 + L + 4
    · have HE : Hid (openE x = 20) := by show _ = _; unfold openE; rw [hl, if_neg h9, if_neg (fun e => e h5), ← HLL.out, if_neg h6, if_pos h7]
      have h7' : (n : Int) < 13 + (L : Int) := by omega
      go_wp2
      exact bodyPost_ret (res14 _ _ _ _ _ _ rfl rfl rfl rfl) rfl ⟨_, _, _, tup_ret rfl rfl rfl (by rw [HE.out]; rfl), b4', (fun h => by rw [HE.out] at h; omega), fun _ => ⟨rfl, rfl, rfl⟩⟩
    have h7' : ¬ (n : Int) < 13 + (L : Int) := by omega
    have sE : ∀ wx, (Instr.sliceAt 22 (.slice (some ⟨b, off, none⟩) n cap) (some (.int .i64 (9 + (L : Int)))) (some (.int .i64 (13 + (L : Int)))) none).run Tryd.prog wx = .ok (.slice (some ⟨b, off + (9 + L), none⟩) 4 (cap - (9 + L))) wx := fun wx => by
      have h := slice_mid b off n cap (9 + L) (13 + L) (by omega) (by omega) hcap (by omega) wx
      rw [show ((9 + L : Nat) : Int) = 9 + (L : Int) by omega, show ((13 + L : Nat) : Int) = 13 + (L : Int) by omega, show 13 + L - (9 + L) = 4 by omega] at h
      exact h
    have sE' : ∀ wx, (Instr.slice 22 (.slice (some ⟨b, off, none⟩) n cap) (some (.int .i64 (9 + (L : Int)))) (some (.int .i64 (13 + (L : Int)))) none).run Tryd.prog wx = .ok (.slice (some ⟨b, off + (9 + L), none⟩) 4 (cap - (9 + L))) wx := fun wx => (run_sliceAt_slice wx _ _ _ _ _ hu27).symm.trans (sE wx)
    have LE : ((x.drop (9 + L)).take 4).length = 4 := by simp; omega
    have HM : Hid (Calls Tryd.prog 56 #[.slice (some ⟨b, off + (9 + L), none⟩) 4 (cap - (9 + L))] W4 fun e w' => ∃ q, e = .returned (.pointer (some ⟨q, 0, none⟩)) ∧ RRAt w' q W4.heap.size ((x.drop (9 + L)).take 4) 0 ∧ Below W4.heap.size W4 w') := rnew_any _ _ 4 _ W4 LE (byt_part hl HC4.out (by omega)) (by omega)
    have TE : rd ((x.drop (9 + L)).take 4) 0 = rd x (9 + L) := by rw [rd_take _ _ _ (by omega), rd_drop]
    go_wp2_with fail
    refine HM.out.mono ?_
    rintro e w5 ⟨q5', rfl, r5, b5⟩
    clear HM sE sE'
    go_wp2_with fail
    refine (rrfix_any q5' W4.heap.size ((x.drop (9 + L)).take 4) 0 w5 r5 (by omega) (by omega)).mono ?_
    rintro e w6 ⟨rfl, r6, b6⟩
    rw [TE]
    have b6' : Below w.heap.size w w6 := b4'.trans ((b5.trans b6).mono b4'.size)
    have HC6 : Hid (∀ j, j < n → w6.cell? ⟨b, off + j, none⟩ = some (.int .u8 (at8 x j))) := cells_below HC4.out (b5.trans b6) (fun _ => by have := b4'.size; omega)
    clear r5 r6 b5 b6 TE LE HC4 b4'
    have sT : ∀ wx, (Instr.sliceAt 22 (.slice (some ⟨b, off, none⟩) n cap) none (some (.int .i64 (9 + (L : Int)))) none).run Tryd.prog wx = .ok (.slice (some ⟨b, off, none⟩) (9 + L) cap) wx := fun wx => by
      have h := slice_to b off n cap (9 + L) (by omega) hcap (by omega) wx
      rw [show ((9 + L : Nat) : Int) = 9 + (L : Int) by omega] at h
      exact h
    have sT' : ∀ wx, (Instr.slice 22 (.slice (some ⟨b, off, none⟩) n cap) none (some (.int .i64 (9 + (L : Int)))) none).run Tryd.prog wx = .ok (.slice (some ⟨b, off, none⟩) (9 + L) cap) wx := fun wx => (run_sliceAt_slice wx _ _ _ _ _ hu27).symm.trans (sT wx)
    have LT : (x.take (9 + L)).length = 9 + L := by simp; omega
    have KE : Hid (Calls Tryd.prog 34 #[.slice (some ⟨b, off, none⟩) (9 + L) cap] w6 fun e w' => e = .returned (.int .u32 (U (crc (x.take (9 + L))))) ∧ w' = w6) := rcrc_at (9 + L) (some ⟨b, off, none⟩) (x.take (9 + L)) cap w6 LT (by simpa using byt_part (j := 0) (m := 9 + L) hl HC6.out (by omega)) (by omega)
    go_wp2_with fail
    refine KE.out.mono ?_
    rintro e W6 ⟨rfl, rfl⟩
    clear KE sT sT' LT q5
    by_cases hE : rd x (9 + L) = (crc (x.take (9 + L))).toNat
    · have qE : ((rd x (9 + L) : Int) != U (crc (x.take (9 + L)))) = false := by unfold U; rw [hE]; simp
      have HE : Hid (openE x = 0) := by show _ = _; unfold openE; rw [hl, if_neg h9, if_neg (fun e => e h5), ← HLL.out, if_neg h6, if_neg h7, if_neg (fun e => e hE)]
      have s9 : ∀ wx, (Instr.sliceAt 22 (.slice (some ⟨b, off, none⟩) n cap) (some (.int .i64 9)) (some (.int .i64 (9 + (L : Int)))) none).run Tryd.prog wx = .ok (.slice (some ⟨b, off + 9, none⟩) L (cap - 9)) wx := fun wx => by
        have h := slice_mid b off n cap 9 (9 + L) (by omega) (by omega) hcap (by omega) wx
        rw [show ((9 + L : Nat) : Int) = 9 + (L : Int) by omega, show 9 + L - 9 = L by omega] at h
        exact h
      have s9' : ∀ wx, (Instr.slice 22 (.slice (some ⟨b, off, none⟩) n cap) (some (.int .i64 9)) (some (.int .i64 (9 + (L : Int)))) none).run Tryd.prog wx = .ok (.slice (some ⟨b, off + 9, none⟩) L (cap - 9)) wx := fun wx => (run_sliceAt_slice wx _ _ _ _ _ hu27).symm.trans (s9 wx)
      have beA : Below W6.heap.size W6 (W6.alloc (.cells #[] 5)) := (Below.refl _ _).alloc (Nat.le_refl _) _
      have O0 : Hid (OwnB (W6.alloc (.cells #[] 5)) w.heap.size (.slice (some ⟨W6.heap.size, 0, none⟩) 0 0) []) := ⟨rfl, .inr ⟨W6.heap.size, 0, #[], rfl, b6'.size, heap_alloc_new _ _, by simp, by simp [maxLen], rfl, rfl⟩⟩
      have LM : ((x.drop 9).take L).length = L := by simp; omega
      have B0 : Hid (Byt (W6.alloc (.cells #[] 5)) (some ⟨b, off + 9, none⟩) ((x.drop 9).take L)) := byt_below (byt_part hl HC6.out (by omega)) beA
      have S0 : Hid (([] : List UInt8).length + ((x.drop 9).take L).length ≤ 140737488355328) := by show _ ≤ _; rw [LM]; simp; omega
      have Z0 : Hid (w.heap.size ≤ (W6.alloc (.cells #[] 5)).heap.size) := by show _ ≤ _; have := b6'.size; simp; omega
      have LM' : Hid (((x.drop 9).take L).length = L) := LM
      clear LM hE HC6
      go_wp2_with (first | (at_builtin; refine wpList_app2 rfl (.tmp 52) (.tmp 56) rfl w.heap.size (.slice (some ⟨W6.heap.size, 0, none⟩) 0 0) [] rfl O0.out (some ⟨b, off + 9, none⟩) L (cap - 9) ((x.drop 9).take L) rfl LM'.out B0.out S0.out Z0.out ?_) | fail)
      intro v' w7 own7 gr7 hblk
      have own7' : Hid (OwnB w7 w.heap.size v' ((x.drop 9).take L)) := (by simpa using own7 : OwnB w7 w.heap.size v' ((x.drop 9).take L))
      have b7 : Hid (Below w.heap.size w w7) := (b6'.trans (beA.mono b6'.size)).grown gr7 Z0.out (fun k hk => (World.ownsRow.lt O0.out k hk).1)
      clear own7 gr7 hblk O0 B0 S0 Z0
      go_wp2
      exact bodyPost_ret (res14 _ _ _ _ _ _ rfl rfl rfl rfl) rfl ⟨_, _, _, tup_ret rfl rfl rfl (by rw [HE.out]; rfl), b7.out, (fun _ => ⟨rfl, by omega, own7'.out⟩), fun h => absurd HE.out h⟩
    · have qE : ((rd x (9 + L) : Int) != U (crc (x.take (9 + L)))) = true := by unfold U; simp; omega
      have HE : Hid (openE x = 23) := by show _ = _; unfold openE; rw [hl, if_neg h9, if_neg (fun e => e h5), ← HLL.out, if_neg h6, if_neg h7, if_pos hE]
      clear hE
      go_wp2
      exact bodyPost_ret (res14 _ _ _ _ _ _ rfl rfl rfl rfl) rfl ⟨_, _, _, tup_ret rfl rfl rfl (by rw [HE.out]; rfl), b6', (fun h => by rw [HE.out] at h; omega), fun _ => ⟨rfl, rfl, rfl⟩⟩
  · have q5 : ((rd x 5 : Int) != U (crc (x.take 5))) = true := by unfold U; simp; omega
    have HE : Hid (openE x = 23) := by show _ = _; unfold openE; rw [hl, if_neg h9, if_pos h5]
    clear h5
    go_wp2
    exact bodyPost_ret (res14 _ _ _ _ _ _ rfl rfl rfl rfl) rfl ⟨_, _, _, tup_ret rfl rfl rfl (by rw [HE.out]; rfl), b4', (fun h => by rw [HE.out] at h; omega), fun _ => ⟨rfl, rfl, rfl⟩⟩
end Go.Proofs.YtcpkdaebeopmaaaDoor
