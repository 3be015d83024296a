import Derived.Test.YtdgbjmhmacgaaaaDoorRa
namespace Go.Proofs.YtdgbjmhmacgaaaaDoor
open Go.RowKit
set_option linter.unusedVariables false
set_option linter.unusedSimpArgs false
set_option maxRecDepth 100000 in
set_option maxHeartbeats 4000000 in
theorem rescape_many (s : ByteArray) (w : World) (hs : s.size ≤ 140737488355328) (h0s : 0 < s.size) (hn : by8 s 0 ≠ 34 ∧ by8 s 0 ≠ 92 ∧ by8 s 0 ≠ 110 ∧ by8 s 0 ≠ 114 ∧ by8 s 0 ≠ 116) :
    Calls Tryd.prog 57 #[.string s, .int .u8 34] w (EscROut s w) := by
  have HN : Hid (by8 s 0 ≠ 34 ∧ by8 s 0 ≠ 92 ∧ by8 s 0 ≠ 110 ∧ by8 s 0 ≠ 114 ∧ by8 s 0 ≠ 116) := hn
  have h0' : (0 : Int) < (s.size : Int) := by omega
  have hE := not_empty0 s h0s
  obtain ⟨b, hb⟩ : ∃ b, (s[0]'h0s).toNat = b := ⟨_, rfl⟩
  have g : by8 s 0 = b := by rw [by8_get s 0 h0s, hb]
  rw [g] at hn
  have i1 : ((b : Int) == 34) = false := beq_eq_false_iff_ne.2 (by omega)
  have i2 : ((b : Int) == 92) = false := beq_eq_false_iff_ne.2 (by omega)
  have i3 : ((b : Int) == 110) = false := beq_eq_false_iff_ne.2 (by omega)
  have i4 : ((b : Int) == 114) = false := beq_eq_false_iff_ne.2 (by omega)
  have i5 : ((b : Int) == 116) = false := beq_eq_false_iff_ne.2 (by omega)
  clear g hn
  go_enter Tryd.func57, Tryd.ntmps57
  go_wp2
  go_loopw [7, 8] (fun x y wr => ∃ best c : Nat, x = .int .i64 best ∧ y = .int .i64 c ∧ c ≤ 128 ∧ best ≤ 5 ∧ Hid (Below w.heap.size w wr) ∧ Hid (BestP s c best)) (fun _ y _ => 128 - (intOf y).toNat)
  case atStart => exact ⟨0, 0, rfl, rfl, by omega, by omega, Below.refl _ _, ⟨fun d hd => by omega, .inl rfl⟩⟩
  case round =>
    obtain ⟨best, c, rfl, rfl, hc, hb5, bel, hB⟩ := hrel
    clear i1 i2 i3 i4 i5 hb hE
    by_cases h1 : c < 128
    · have h1' : (c : Int) < 128 := by omega
      by_cases hel : Elig c
      · have HEL : Hid (Elig c) := hel
        have hcase : (c < 32 ∧ c ≠ 10 ∧ c ≠ 13 ∧ c ≠ 9) ∨ c = 127 := by unfold Elig at hel; omega
        have C0 : (UInt8.ofNat c).toNat = c := by rw [UInt8.toNat_ofNat']; omega
        have wr8 : IntKind.u8.wrap (c : Int) = (c : Int) := by rw [IntKind.wrap_u8]; omega
        have HH : Hid (Calls Tryd.prog 52 #[.slice (some ⟨wr.heap.size, 0, none⟩) 1 1] (wr.alloc (.cells #[.int .u8 (c : Int)] 5)) fun e w' => e = .returned (.string ⟨#[hx ((c : Int) / 16), hx ((c : Int) % 16)]⟩) ∧ Below (wr.alloc (.cells #[.int .u8 (c : Int)] 5)).heap.size (wr.alloc (.cells #[.int .u8 (c : Int)] 5)) w') := by
          have h := hex_one wr.heap.size (UInt8.ofNat c) (wr.alloc (.cells #[.int .u8 (c : Int)] 5)) (c : Int) (by rw [C0]) (heap_alloc_new _ _)
          rw [C0] at h
          exact h
        have hW : { data := #[117, 48, 48] } ++ (⟨#[hx ((c : Int) / 16), hx ((c : Int) % 16)]⟩ : ByteArray) = wdC c := rfl
        have zW := wdC_size c
        have hM0 : Hid (∀ k, MQ s (wdC c) k → k < 5 → BestP s (c + 1) (if best < k then k else best)) := fun k hk hk5 => by
          refine ⟨fun d hd he => ?_, ?_⟩
          · rcases Nat.lt_or_ge d c with h | h
            · obtain ⟨m, a, b, e⟩ := hB.out.all d h he
              refine ⟨m, a, b, ?_⟩
              split <;> omega
            · have : d = c := by omega
              subst this
              refine ⟨k, hk, hk5, ?_⟩
              split <;> omega
          · split
            · exact .inr ⟨c, by omega, hel, hk⟩
            · rcases hB.out.some with h | ⟨d, hd, he, hm⟩
              · exact .inl h
              · exact .inr ⟨d, by omega, he, hm⟩
        have hM5 : Hid (MQ s (wdC c) 5 → EscRV s ((c : Int), 5, 0)) := fun h => .inr (.inr (.inr (.inr (.inr ⟨h0s, HN.out, .inl ⟨c, h1, hel, h, rfl⟩⟩))))
        have bA : Hid (Below w.heap.size w (wr.alloc (.cells #[.int .u8 (c : Int)] 5))) := bel.out.alloc bel.out.size _
        clear hB hel C0
        generalize wdC c = W at *
        have HW : Hid (wdC c = W ∨ True) := .inr trivial
        have k2 : ((c : Int) == 10) = false := beq_eq_false_iff_ne.2 (by omega)
        have k3 : ((c : Int) == 13) = false := beq_eq_false_iff_ne.2 (by omega)
        have k4 : ((c : Int) == 9) = false := beq_eq_false_iff_ne.2 (by omega)
        have zWi : (W.size : Int) = 5 := by rw [zW]; rfl
        have ZW : Hid (W.size = 5) := zW
        clear zW HW
        have hcase' : ((c : Int) < 32) ∨ ((32 : Int) ≤ (c : Int) ∧ ((c : Int) != 127) = false) := by
          rcases hcase with h | h
          · exact .inl (by omega)
          · exact .inr ⟨by omega, by rw [h]; rfl⟩
        clear hcase
        rcases hcase' with k1 | ⟨k1, k5⟩
        all_goals (
          go_wp2_with fail
          refine HH.out.mono ?_
          rintro e w2 ⟨rfl, b2⟩
          have B2 : Hid (Below w.heap.size w w2) := bA.out.trans (b2.mono bA.out.size)
          clear b2 HH bA bel
          go_wp2
          clear k1 k2 k3 k4
          go_loopw [10] (fun i wq => ∃ k : Nat, i = .int .i64 k ∧ k ≤ 5 ∧ k ≤ s.size ∧ Hid (∀ j, j < k → by8 s j = by8 W j) ∧ Hid (∃ m, wq = w2.drewN m)) (fun i _ => 5 - (intOf i).toNat)
          case atStart => exact ⟨0, rfl, by omega, by omega, fun j hj => by omega, 0, rfl⟩
          case round =>
            obtain ⟨k, rfl, h4, hk, hall, hw⟩ := hrel
            obtain ⟨mm, hw⟩ := hw.out
            have HE : Hid (∀ m2, ∃ m3, wr.drewN m2 = w2.drewN m3) := fun m2 => ⟨mm + m2, by rw [hw, World.drewN_drewN]⟩
            clear hw
            have HBel : Hid (∀ m2, Below w.heap.size w (wr.drewN m2)) := fun m2 => by
              obtain ⟨m3, e3⟩ := HE.out m2
              rw [e3]
              exact below_drewN B2.out m3
            have FIN : Hid (MQ s W k → k < 5 → BestP s (c + 1) (if best < k then k else best)) := hM0.out k
            by_cases h5 : k < 5
            · have h5' : (k : Int) < 5 := by omega
              have h5e : ((k : Int) == 5) = false := beq_eq_false_iff_ne.2 (by omega)
              by_cases h2 : k < s.size
              · have h2' : (k : Int) < (s.size : Int) := by omega
                have hkW : k < W.size := by have := ZW.out; omega
                have g1 := by8_get s k h2
                have g2 := by8_get W k hkW
                by_cases h3 : by8 s k = by8 W k
                · have HA : Hid (∀ j, j < k + 1 → by8 s j = by8 W j) := fun j hj => by
                    rcases Nat.lt_or_ge j k with h | h
                    · exact hall.out j h
                    · have : j = k := by omega
                      subst this; exact h3
                  have hq : (((s[k]'h2).toNat : Int) == ((W[k]'hkW).toNat : Int)) = true := by rw [← g1, ← g2, h3]; simp
                  clear g1 g2 h3 hall
                  go_upto_region 20 with fail
                  go_quiet (fail)
                  go_wp2
                  exact ⟨⟨k + 1, by rw [Int.natCast_add]; rfl, by omega, by omega, HA, HE.out _⟩, by simp [intOf]; omega⟩
                · have hq : (((s[k]'h2).toNat : Int) == ((W[k]'hkW).toNat : Int)) = false := by rw [← g1, ← g2]; exact beq_eq_false_iff_ne.2 (by omega)
                  have hBB := FIN.out ⟨by have := ZW.out; omega, hk, hall.out, fun _ _ => h3⟩ h5
                  clear g1 g2 h3 hall
                  by_cases hlt : best < k
                  · have hlt' : (best : Int) < (k : Int) := by omega
                    rw [if_pos hlt] at hBB
                    have HBB : Hid (BestP s (c + 1) k) := hBB
                    clear hBB FIN hM0 hM5 hlt
                    go_upto_region 20 with fail
                    go_quiet (fail)
                    go_wp2
                    go_roundw
                    case rel => exact ⟨k, c + 1, rfl, by go_num, by omega, by omega, HBel.out nq, HBB⟩
                    case measure => simp [intOf]; omega
                  · have hlt' : ¬ (best : Int) < (k : Int) := by omega
                    rw [if_neg hlt] at hBB
                    have HBB : Hid (BestP s (c + 1) best) := hBB
                    clear hBB FIN hM0 hM5 hlt
                    go_upto_region 20 with fail
                    go_quiet (fail)
                    go_wp2
                    go_roundw
                    case rel => exact ⟨best, c + 1, rfl, by go_num, by omega, by omega, HBel.out nq, HBB⟩
                    case measure => simp [intOf]; omega
              · have h2' : ¬ (k : Int) < (s.size : Int) := by omega
                have hBB := FIN.out ⟨by have := ZW.out; omega, hk, hall.out, fun _ h => absurd h h2⟩ h5
                clear hall
                by_cases hlt : best < k
                · have hlt' : (best : Int) < (k : Int) := by omega
                  rw [if_pos hlt] at hBB
                  have HBB : Hid (BestP s (c + 1) k) := hBB
                  clear hBB FIN hM0 hM5 hlt
                  go_upto_region 20 with fail
                  go_quiet (fail)
                  go_wp2
                  go_roundw
                  case rel => exact ⟨k, c + 1, rfl, by go_num, by omega, by omega, HBel.out nq, HBB⟩
                  case measure => simp [intOf]; omega
                · have hlt' : ¬ (best : Int) < (k : Int) := by omega
                  rw [if_neg hlt] at hBB
                  have HBB : Hid (BestP s (c + 1) best) := hBB
                  clear hBB FIN hM0 hM5 hlt
                  go_upto_region 20 with fail
                  go_quiet (fail)
                  go_wp2
                  go_roundw
                  case rel => exact ⟨best, c + 1, rfl, by go_num, by omega, by omega, HBel.out nq, HBB⟩
                  case measure => simp [intOf]; omega
            · obtain rfl : k = 5 := by omega
              have hV := hM5.out ⟨by have := ZW.out; omega, hk, hall.out, fun h => absurd h (by have := ZW.out; omega)⟩
              clear hall FIN hM0 hM5
              go_upto_region 20 with fail
              go_quiet (fail)
              go_wp2
              exact bodyPost_ret (res57 _ _ _ _ _ rfl rfl rfl) rfl (escR_mk hV (HBel.out nq)))
      · have HB : Hid (BestP s (c + 1) best) := by
          refine ⟨fun d hd he => ?_, ?_⟩
          · rcases Nat.lt_or_ge d c with h | h
            · exact hB.out.all d h he
            · have : d = c := by omega
              subst this
              exact absurd he hel
          · rcases hB.out.some with h | ⟨d, hd, he, hm⟩
            · exact .inl h
            · exact .inr ⟨d, by omega, he, hm⟩
        have hcase : (32 ≤ c ∧ c ≠ 127) ∨ c = 10 ∨ c = 13 ∨ c = 9 := by unfold Elig at hel; omega
        clear hel hB
        rcases hcase with ⟨a1, a2⟩ | rfl | rfl | rfl
        · have a1' : (32 : Int) ≤ (c : Int) := by omega
          have a2' : ((c : Int) != 127) = true := bne_iff_ne.2 (by omega)
          go_wp2
          go_roundw
          case rel => exact ⟨best, c + 1, rfl, by go_num, by omega, by omega, bel, HB⟩
          case measure => simp [intOf]; omega
        all_goals (
          go_wp2
          go_roundw
          case rel => exact ⟨best, _, rfl, by rfl, by omega, by omega, bel, HB⟩
          case measure => simp [intOf])
    · obtain rfl : c = 128 := by omega
      have hV : EscRV s (0, 0, (best : Int)) := .inr (.inr (.inr (.inr (.inr ⟨h0s, HN.out, .inr ⟨best, hB.out, rfl⟩⟩))))
      clear hB
      go_wp2
      exact bodyPost_ret (res57 _ _ _ _ _ rfl rfl rfl) rfl (escR_mk hV bel.out)
end Go.Proofs.YtdgbjmhmacgaaaaDoor
