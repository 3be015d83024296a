import Derived.Test.YtpalbfkkegaliabDoorXFx
namespace Go.Proofs.YtpalbfkkegaliabDoor.X
open Go.RowKit
set_option linter.unusedVariables false
set_option linter.unusedSimpArgs false

theorem tup_ret {a b c d : Value} {a' b' c' d' : Value} (h1 : a = a') (h2 : b = b') (h3 : c = c') (h4 : d = d') : Ending.returned (.tuple #[a, b, c, d]) = .returned (.tuple #[a', b', c', d']) := by rw [h1, h2, h3, h4]

theorem res8 (tmps : Array Value) (w : World) (a b c d : Value) (h1 : tmps.getD 2 undef = a) (h2 : tmps.getD 3 undef = b) (h3 : tmps.getD 4 undef = c) (h4 : tmps.getD 5 undef = d) : (results Tryd.f20 tmps).run Tryd.prog w = .ok (.tuple #[a, b, c, d]) w := by
  subst h1 h2 h3 h4
  simp [results, Tryd.results20]
set_option maxRecDepth 100000 in
set_option maxHeartbeats 4000000 in
theorem open_any (a : Option Addr) (x : List UInt8) (n cap : Nat) (w : World) (hl : x.length = n) (hcap : n ≤ cap) (hn : n ≤ 281474976710656) (hb : Byt w a x) (hN : NibsAt w) :
    Calls Tryd.prog 20 #[.slice a n cap] w fun e w' => ∃ (k : Int) (v : Value) (m : Int), e = .returned (.tuple #[.int .u8 k, v, .int .i64 m, .int .i64 (openE x : Int)]) ∧ Below w.heap.size w w' ∧
      (openE x = 0 → k = at8 x 0 ∧ m = 9 + (rd x 1 : Int) + 4 ∧ OwnB w' w.heap.size v ((x.drop 9).take (rd x 1))) ∧ (openE x ≠ 0 → k = 0 ∧ v = .slice none 0 0 ∧ m = 0) := by
  by_cases h9 : n < 9
  · have HE : Hid (openE x = 20) := by show _ = _; unfold openE; rw [hl, if_pos h9]
    have h9' : (n : Int) < 9 := by omega
    go_enter Tryd.func20, Tryd.ntmps20
    go_wp2
    exact bodyPost_ret (res8 _ _ _ _ _ _ rfl rfl rfl rfl) rfl ⟨_, _, _, tup_ret rfl rfl rfl (by rw [HE.out]; rfl), Below.refl _ _, (fun h => by rw [HE.out] at h; omega), fun _ => ⟨rfl, rfl, rfl⟩⟩
  rcases hb with rfl | ⟨b, off, rfl, hc⟩
  · simp at hl; omega
  rw [hl] at hc
  have F5 := fits_any b off n cap 5 x w hl (by omega) hcap hn hc hN
  have h9' : ¬ (n : Int) < 9 := by omega
  have s1 := slice_from b off n cap 1 (by omega) hcap (by omega)
  simp only [Int.cast_ofNat_Int] at s1
  have FX : Hid (∀ m, Calls Tryd.prog 66 #[.slice (some ⟨b, off + 1, none⟩) (n - 1) (cap - 1)] (w.drewN m) fun e w' => e = .returned (.int .u32 (U (rdw (x.drop 1)))) ∧ ∃ m', w' = (w.drewN m).drewN m') := fun m =>
    fix_any b (off + 1) (n - 1) (cap - 1) (x.drop 1) (w.drewN m) (by omega) (fun j hj => by
      rw [at8_drop, Nat.add_assoc]
      exact hc (1 + j) (by omega))
  obtain ⟨r, hr⟩ : ∃ r, r = rdw (x.drop 1) := ⟨_, rfl⟩
  have hrn : r.toNat = rd x 1 := by rw [hr, rdw_nat, rd_drop]
  rw [← hr] at FX
  clear hr
  have rlt := rd_lt x 1
  obtain ⟨L, hL⟩ : ∃ L, L = rd x 1 := ⟨_, rfl⟩
  rw [← hL] at hrn rlt ⊢
  have HLL : Hid (L = rd x 1) := hL
  clear hL
  have HR : Hid (U r = (L : Int)) := by show _ = _; unfold U; rw [hrn]
  clear hrn
  by_cases h5 : rd x 5 = (crc (x.take 5)).toNat
  · rw [decide_eq_true h5] at F5
    have HF5 : Hid (Calls Tryd.prog 65 #[.slice (some ⟨b, off, none⟩) n cap, .int .i64 ((5 : Nat) : Int)] w fun e w' => e = .returned (.bool true) ∧ ∃ m, w' = w.drewN m) := F5
    clear F5
    rw [HR.out] at FX
    go_enter Tryd.func20, Tryd.ntmps20
    go_wp2_with fail
    refine HF5.out.mono ?_
    rintro e w1 ⟨rfl, m1, rfl⟩
    clear HF5
    go_wp2_with fail
    refine (FX.out m1).mono ?_
    rintro e w1 ⟨rfl, m2, rfl⟩
    rw [World.drewN_drewN]
    generalize m1 + m2 = m3
    clear FX s1
    by_cases h6 : 16777216 < L
    · have HE : Hid (openE x = 6) := by show _ = _; unfold openE; rw [hl, if_neg h9, if_neg (fun e => e h5), ← HLL.out, if_pos h6]
      have h6' : (16777216 : Int) < (L : Int) := by omega
      go_wp2
      exact bodyPost_ret (res8 _ _ _ _ _ _ rfl rfl rfl rfl) rfl ⟨_, _, _, tup_ret rfl rfl rfl (by rw [HE.out]; rfl), below_drewN (Below.refl _ _) _, (fun h => by rw [HE.out] at h; omega), fun _ => ⟨rfl, rfl, rfl⟩⟩
    by_cases h7 : n < 9 + L + 4
    · have HE : Hid (openE x = 20) := by show _ = _; unfold openE; rw [hl, if_neg h9, if_neg (fun e => e h5), ← HLL.out, if_neg h6, if_pos h7]
      have h6' : ¬ (16777216 : Int) < (L : Int) := by omega
      have h7' : (n : Int) < 9 + (L : Int) + 4 := by omega
      go_wp2
      exact bodyPost_ret (res8 _ _ _ _ _ _ rfl rfl rfl rfl) rfl ⟨_, _, _, tup_ret rfl rfl rfl (by rw [HE.out]; rfl), below_drewN (Below.refl _ _) _, (fun h => by rw [HE.out] at h; omega), fun _ => ⟨rfl, rfl, rfl⟩⟩
    have h6' : ¬ (16777216 : Int) < (L : Int) := by omega
    have h7' : ¬ (n : Int) < 9 + (L : Int) + 4 := by omega
    have FE := fits_any b off n cap (9 + L) x (w.drewN m3) hl (by omega) hcap hn hc hN
    have ecast : ((9 + L : Nat) : Int) = 9 + (L : Int) := by omega
    rw [ecast] at FE
    clear ecast
    by_cases hE : rd x (9 + L) = (crc (x.take (9 + L))).toNat
    · rw [decide_eq_true hE] at FE
      have HFE : Hid (Calls Tryd.prog 65 #[.slice (some ⟨b, off, none⟩) n cap, .int .i64 (9 + (L : Int))] (w.drewN m3) fun e w' => e = .returned (.bool true) ∧ ∃ m, w' = (w.drewN m3).drewN m) := FE
      clear FE
      have HE : Hid (openE x = 0) := by show _ = _; unfold openE; rw [hl, if_neg h9, if_neg (fun e => e h5), ← HLL.out, if_neg h6, if_neg h7, if_neg (fun e => e hE)]
      clear hE
      go_wp2_with fail
      refine HFE.out.mono ?_
      rintro e w1 ⟨rfl, m4, rfl⟩
      rw [World.drewN_drewN]
      generalize m3 + m4 = m5
      clear HFE
      have c0 := hc 0 (by omega)
      rw [Nat.add_zero] at c0
      have hbw : b < w.heap.size := block_lt_of_cell c0
      have s9 : ∀ wx, (Instr.sliceAt 25 (.slice (some ⟨b, off, none⟩) n cap) (some (.int .i64 9)) (some (.int .i64 (9 + (L : Int)))) none).run Tryd.prog wx = .ok (.slice (some ⟨b, off + 9, none⟩) L (cap - 9)) wx := fun wx => by
        have h := slice_mid b off n cap 9 (9 + L) (by omega) (by omega) hcap (by omega) wx
        rw [show ((9 + L : Nat) : Int) = 9 + (L : Int) by omega, show 9 + L - 9 = L by omega] at h
        exact h
      have s9' : ∀ wx, (Instr.slice 25 (.slice (some ⟨b, off, none⟩) n cap) (some (.int .i64 9)) (some (.int .i64 (9 + (L : Int)))) none).run Tryd.prog wx = .ok (.slice (some ⟨b, off + 9, none⟩) L (cap - 9)) wx := fun wx => (run_sliceAt_slice wx _ _ _ _ _ hu27).symm.trans (s9 wx)
      have hw4 : IntKind.i64.wrap (9 + (L : Int) + 4) = 9 + (L : Int) + 4 := by rw [IntKind.wrap_i64]; omega
      have H : Hid (∀ wx, Below w.heap.size w wx → wx.heap.size = w.heap.size → Calls Tryd.prog 47 #[.slice (some ⟨b, off + 9, none⟩) L (cap - 9)] wx fun e w' => ∃ v, e = .returned v ∧ OwnB w' w.heap.size v ((x.drop 9).take L) ∧ Below w.heap.size w w') := fun wx hx hs => by
        have hlen : ((x.drop 9).take L).length = L := by simp; omega
        refine (clone_any b (off + 9) L (cap - 9) ((x.drop 9).take L) wx hlen (by omega) (.inr ⟨b, off + 9, rfl, fun j hj => ?_⟩)).mono ?_
        · rw [at8_take _ _ _ (by omega), at8_drop, Nat.add_assoc]
          exact (hx.cell (p := ⟨b, off + (9 + j), none⟩) (block_lt_of_cell (hc (9 + j) (by omega)))).trans (hc (9 + j) (by omega))
        · rintro e w' ⟨v, he, ho, hb⟩
          rw [hs] at ho hb
          exact ⟨v, he, ho, hx.trans hb⟩
      go_wp2
      go_region_with (go_at_call 47; refine (H.out _ ?_ ?_).mono ?_; (first | exact (below_drewN (Below.refl _ _) _).drew | exact below_drewN (Below.refl _ _) _); rfl; rintro e wz ⟨v, rfl, ho, hbz⟩; have cz := (hbz.cell (p := ⟨b, off, none⟩) hbw).trans c0)
      all_goals go_wp2
      all_goals exact bodyPost_ret (res8 _ _ _ _ _ _ rfl rfl rfl rfl) rfl ⟨_, _, _, tup_ret rfl rfl rfl (by rw [HE.out]; rfl), hbz, (fun _ => ⟨rfl, rfl, ho⟩), fun h => absurd HE.out h⟩
    · rw [decide_eq_false hE] at FE
      have HFE : Hid (Calls Tryd.prog 65 #[.slice (some ⟨b, off, none⟩) n cap, .int .i64 (9 + (L : Int))] (w.drewN m3) fun e w' => e = .returned (.bool false) ∧ ∃ m, w' = (w.drewN m3).drewN m) := FE
      clear FE
      have HE : Hid (openE x = 23) := by show _ = _; unfold openE; rw [hl, if_neg h9, if_neg (fun e => e h5), ← HLL.out, if_neg h6, if_neg h7, if_pos hE]
      clear hE
      go_wp2_with fail
      refine HFE.out.mono ?_
      rintro e w1 ⟨rfl, m4, rfl⟩
      clear HFE
      go_wp2
      exact bodyPost_ret (res8 _ _ _ _ _ _ rfl rfl rfl rfl) rfl ⟨_, _, _, tup_ret rfl rfl rfl (by rw [HE.out]; rfl), below_drewN (Below.refl _ _) _, (fun h => by rw [HE.out] at h; omega), fun _ => ⟨rfl, rfl, rfl⟩⟩
  · rw [decide_eq_false h5] at F5
    have HF5 : Hid (Calls Tryd.prog 65 #[.slice (some ⟨b, off, none⟩) n cap, .int .i64 ((5 : Nat) : Int)] w fun e w' => e = .returned (.bool false) ∧ ∃ m, w' = w.drewN m) := F5
    have HE : Hid (openE x = 23) := by show _ = _; unfold openE; rw [hl, if_neg h9, if_pos h5]
    clear F5 FX s1
    go_enter Tryd.func20, Tryd.ntmps20
    go_wp2_with fail
    refine HF5.out.mono ?_
    rintro e w1 ⟨rfl, m1, rfl⟩
    clear HF5
    go_wp2
    exact bodyPost_ret (res8 _ _ _ _ _ _ rfl rfl rfl rfl) rfl ⟨_, _, _, tup_ret rfl rfl rfl (by rw [HE.out]; rfl), below_drewN (Below.refl _ _) _, (fun h => by rw [HE.out] at h; omega), fun _ => ⟨rfl, rfl, rfl⟩⟩
end Go.Proofs.YtpalbfkkegaliabDoor.X
