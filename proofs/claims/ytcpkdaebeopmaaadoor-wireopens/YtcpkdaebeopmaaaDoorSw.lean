import Derived.Test.YtcpkdaebeopmaaaDoorBo
import Derived.Test.YtcpkdaebeopmaaaDoorRs
import Derived.Test.YtcpkdaebeopmaaaDoorMem
import Derived.Test.YtcpkdaebeopmaaaDoorLive
namespace Go.Proofs.YtcpkdaebeopmaaaDoor
open Go.RowKit
set_option linter.unusedVariables false
set_option linter.unusedSimpArgs false

theorem hand_at (a : Option Addr) (l : List UInt8) (n cap : Nat) (w : World) (hl : l.length = n) (hb : Byt w a l) (hn : n ≤ 140737488351232) :
    Calls Tryd.prog 6 #[.slice a n cap] w fun e w' => e = .returned (.slice (some ⟨w.heap.size, 0, none⟩) n (n + 9)) ∧ w'.heap[w.heap.size]? = some (.cells (bs (l ++ marks)) 5 (0, 0)) ∧ Below w.heap.size w w' := by
  subst hl
  exact hand_any a l cap w hb hn
theorem own_base {w : World} {b1 b2 : Nat} {v : Value} {L : List UInt8} (h : OwnB w b1 v L) (hb : b2 ≤ b1) : OwnB w b2 v L := by
  refine ⟨h.1, ?_⟩
  rcases h.2 with hn | ⟨g, cap, cur, rfl, hbg, rest⟩
  · exact .inl hn
  · exact .inr ⟨g, cap, cur, rfl, by omega, rest⟩
theorem byt_hand {w : World} {g : Nat} {l : List UInt8} (h : w.heap[g]? = some (.cells (bs (l ++ marks)) 5 (0, 0))) : Byt w (some ⟨g, 0, none⟩) l :=
  .inr ⟨g, 0, rfl, fun j hj => by rw [Nat.zero_add, (cell_of_row w g j _ _ _ h).trans (bs_get _ j (by simp; omega)), own_at l j hj]⟩
theorem u8_not (x : Int) (h0 : 0 ≤ x) (h1 : x ≤ 255) : ∃ y : UInt8, bits .xor .u8 255 x = (y.toNat : Int) := by
  refine ⟨255 ^^^ UInt8.ofNat x.toNat, ?_⟩
  have := xor8 255 (UInt8.ofNat x.toNat)
  rw [UInt8.toNat_ofNat'] at this
  rw [show ((x.toNat % 2 ^ 8 : Nat) : Int) = x by omega] at this
  exact this

theorem kept_at (g : Nat) (a : Option Addr) (l : List UInt8) (n cap : Nat) (w : World) (hn : l.length = n) (hg : w.heap[g]? = some (.cells (bs (l ++ marks)) 5 (0, 0))) (hb : Byt w a l) (hl : n ≤ 140737488351232) :
    Calls Tryd.prog 10 #[.slice (some ⟨g, 0, none⟩) n (n + 9), .slice a n cap] w fun e w' => e = .returned (.bool true) ∧ ∃ m, w' = w.drewN m := by
  subst hn
  exact kept_any g a l cap w hg hb hl
theorem own_aside {w w' : World} {base gi : Nat} {v : Value} {L : List UInt8} (h : OwnB w base v L) (hgi : gi < base) (ho : ∀ j, j ≠ gi → w'.heap[j]? = w.heap[j]?) : OwnB w' base v L := by
  refine ⟨h.1, ?_⟩
  rcases h.2 with hn | ⟨g, cap, cur, rfl, hbg, hg, rest⟩
  · exact .inl hn
  · exact .inr ⟨g, cap, cur, rfl, hbg, by rw [ho g (by omega)]; exact hg, rest⟩

theorem own_byt {w : World} {base m c : Nat} {a : Option Addr} {L : List UInt8} (h : OwnB w base (.slice a m c) L) : Byt w a L := by
  obtain ⟨a', c', e, _, y, _⟩ := h.open
  injection e with e1 e2 e3
  subst e1
  exact y
theorem own_block {w : World} {base m c k : Nat} {a : Option Addr} {L : List UInt8} (h : OwnB w base (.slice a m c) L) (hk : (Value.slice a m c).ownBlock = some k) : base ≤ k ∧ k < w.heap.size := by
  rcases h.2 with ⟨e, _⟩ | ⟨g, cap, cur, e, hbg, hg, _⟩
  · rw [e] at hk
    simp [Value.ownBlock] at hk
  · rw [e] at hk
    simp [Value.ownBlock] at hk
    subst hk
    exact ⟨hbg, (Array.getElem?_eq_some_iff.1 hg).1⟩
theorem not_max : (if IntKind.u8.signed = true then (-1 : Int) else IntKind.u8.max) = 255 := by kernel_rfl

set_option maxRecDepth 100000 in
set_option maxHeartbeats 2000000 in
theorem seals_short (kd : UInt8) (a : Option Addr) (l : List UInt8) (n cap : Nat) (w : World) (hl : l.length = n) (hb : Byt w a l) (hn : n ≤ 16777216) (hN : NibsAt w) :
    Calls Tryd.prog 3 #[.int .u8 (kd.toNat : Int), .slice a n cap] w fun e w' => e = .returned (.bool true) ∧ Below w.heap.size w w' := by
  go_enter Tryd.func3, Tryd.ntmps3
  go_wp2_with fail
  refine (live_any w).mono ?_
  rintro e w1 ⟨rfl, b1⟩
  have z1 := b1.size
  go_wp2_with fail
  refine (hand_at a l n cap w1 hl (byt_below hb b1) (by omega)).mono ?_
  rintro e w2 ⟨rfl, h2, b2⟩
  have be2 := b1.trans (b2.mono z1)
  have z2 : w1.heap.size < w2.heap.size := (Array.getElem?_eq_some_iff.1 h2).1
  obtain ⟨gi, hgi1, hgi2⟩ : ∃ g, g = w1.heap.size ∧ g = w1.heap.size := ⟨_, rfl, rfl⟩
  rw [← hgi1] at h2 z2 ⊢
  have zg : w.heap.size ≤ gi := by omega
  clear hgi1 hgi2 b1 b2
  go_wp2_with fail
  refine (seal_any kd kd.toNat rfl (some ⟨gi, 0, none⟩) l n (n + 9) w2 hl (byt_hand h2) hn (nibsAt_below hN be2)).mono ?_
  rintro e w3 ⟨v3, rfl, o3, b3⟩
  have z3 := b3.size
  have be3 := be2.trans (b3.mono (by omega))
  have h3 := (b3.block gi z2).trans h2
  have LF : (frame kd l).length = n + 13 := by rw [frame_len, hl]
  clear h2
  go_wp2_with fail
  refine (rseal_any kd kd.toNat rfl a l n cap w3 hl (byt_below hb be3) hn).mono ?_
  rintro e w4 ⟨v4, rfl, o4, b4⟩
  have z4 := b4.size
  have be4 := be3.trans (b4.mono (by omega))
  have h4 := (b4.block gi (by omega)).trans h3
  have o3' := o3.below b4
  generalize hF : frame kd l = F at *
  obtain ⟨a3, c3, rfl, _, y3, x3⟩ := o3'.open
  obtain ⟨a4, c4, rfl, _, y4, _⟩ := o4.open
  rw [LF] at o3' o4 o3 ⊢
  have r3 : ∀ k, (Value.slice a3 (n + 13) c3).ownBlock = some k → k < w4.heap.size := fun k hk => (own_block o3' hk).2
  have S5 : Hid (Calls Tryd.prog 9 #[.slice a3 (n + 13) c3, .slice a4 (n + 13) c4] w4 fun e w' => e = .returned (.bool true) ∧ ∃ m, w' = w4.drewN m) := same_any a3 a4 F (n + 13) c3 c4 w4 LF y3 y4 (by omega)
  clear h3 o3 b3 b4
  go_wp2_with fail
  refine S5.out.mono ?_
  rintro e w5 ⟨rfl, m5, rfl⟩
  have h5 : (w4.drewN m5).heap[gi]? = some (.cells (bs (l ++ marks)) 5 (0, 0)) := h4
  have be5 : Below w.heap.size w (w4.drewN m5) := below_drewN be4 m5
  have b45 : Below w4.heap.size w4 (w4.drewN m5) := below_drewN (Below.refl _ _) m5
  clear S5 h4
  generalize (w4.drewN m5) = W5 at *
  have o35 := o3'.below b45
  have o45 := o4.below b45
  have K6 : Hid (Calls Tryd.prog 10 #[.slice (some ⟨gi, 0, none⟩) n (n + 9), .slice a n cap] W5 fun e w' => e = .returned (.bool true) ∧ ∃ m, w' = W5.drewN m) := kept_at gi a l n cap W5 hl h5 (byt_below hb be5) (by omega)
  go_wp2_with fail
  refine K6.out.mono ?_
  rintro e w6 ⟨rfl, m6, rfl⟩
  have z5 := b45.size
  clear K6
  have h6 : (W5.drewN m6).heap[gi]? = some (.cells (bs (l ++ marks)) 5 (0, 0)) := h5
  have be6 : Below w.heap.size w (W5.drewN m6) := below_drewN be5 m6
  have b56 : Below W5.heap.size W5 (W5.drewN m6) := below_drewN (Below.refl _ _) m6
  have o36 := o35.below b56
  have o46 := o45.below b56
  have z6 := b56.size
  clear o35 o45 o3' o4 h5 y3 y4 x3
  generalize (W5.drewN m6) = W6 at *
  go_wp2_with fail
  go_loopw [10] (fun i wr => ∃ (k : Nat) (L : List UInt8), k ≤ n ∧ i = .int .i64 k ∧ L.length = n + 9 ∧ wr.heap[gi]? = some (.cells (bs L) 5 (0, 0)) ∧ Below w.heap.size w wr ∧ wr.heap.size = W6.heap.size ∧ ∀ j, j ≠ gi → wr.heap[j]? = W6.heap[j]?) (fun i _ => n - (intOf i).toNat)
  case atStart => exact ⟨0, _, Nat.zero_le _, rfl, by simp [marks, hl], h6, be6, rfl, fun _ _ => rfl⟩
  case round =>
    obtain ⟨k, L, hk, rfl, hL, hg, hbel, hsz, hoth⟩ := hrel
    by_cases h1 : k < n
    · have hc := (cell_of_row wr gi k _ _ _ hg).trans (bs_get _ k (by omega))
      have hf := frozen_of_row wr gi k _ _ hg
      obtain ⟨y, hy⟩ := u8_not (at8 L k) (by simp [at8]) (by unfold at8; have := (L.getD k 0).toNat_lt; omega)
      go_wp2
      go_roundw
      case rel =>
        rw [not_max, hy]
        refine ⟨k + 1, L.set k y, by omega, by go_num, by simp [hL], ?_, hbel.setCell (by simpa using zg) _, by simpa using hsz, fun j hj => (heap_setCell_other _ _ _ _ hj).trans (hoth j hj)⟩
        rw [heap_setCell_same wr gi k _ 5 _ hg, bs_set]
      case measure => simp [intOf]; omega
    · have o37 := own_aside o36 z2 hoth
      have o47 := own_aside o46 (by omega) hoth
      have zr : w4.heap.size ≤ wr.heap.size := by omega
      clear hg hoth o36 o46 h6 be6 be5 b45 b56 hsz
      go_wp2_with fail
      refine (hand_at a l n cap wr hl (byt_below hb hbel) (by omega)).mono ?_
      rintro e w7 ⟨rfl, h7, b7⟩
      have z7 : wr.heap.size < w7.heap.size := (Array.getElem?_eq_some_iff.1 h7).1
      have be7 := hbel.trans (b7.mono hbel.size)
      go_wp2_with fail
      refine (seal_any kd kd.toNat rfl (some ⟨wr.heap.size, 0, none⟩) l n (n + 9) w7 hl (byt_hand h7) hn (nibsAt_below hN be7)).mono ?_
      rintro e w8 ⟨v8, rfl, o8, b8⟩
      rw [hF] at o8
      have z8 := b8.size
      have be8 := be7.trans (b8.mono be7.size)
      have o38 := (o37.below b7).below b8
      have o48 := (o47.below b7).below b8
      obtain ⟨a8, c8, rfl, _, y8, _⟩ := o8.open
      rw [LF] at o8 ⊢
      have S1 : Hid (Calls Tryd.prog 9 #[.slice a8 (n + 13) c8, .slice a4 (n + 13) c4] w8 fun e w' => e = .returned (.bool true) ∧ ∃ m, w' = w8.drewN m) := same_any a8 a4 F (n + 13) c8 c4 w8 LF y8 (own_byt o48) (by omega)
      clear h7 b7 b8 o37 o47 y8
      go_wp2_with fail
      refine S1.out.mono ?_
      rintro e w9 ⟨rfl, m9, rfl⟩
      clear S1
      have b9 : Below w8.heap.size w8 (w8.drewN m9) := below_drewN (Below.refl _ _) m9
      have be9 : Below w.heap.size w (w8.drewN m9) := below_drewN be8 m9
      have o39 := o38.below b9
      have o49 := o48.below b9
      have o89 := o8.below b9
      have z9 := b9.size
      clear o38 o48 o8 be8 b9
      generalize (w8.drewN m9) = W9 at *
      have S2 : Hid (Calls Tryd.prog 9 #[.slice a3 (n + 13) c3, .slice a4 (n + 13) c4] W9 fun e w' => e = .returned (.bool true) ∧ ∃ m, w' = W9.drewN m) := same_any a3 a4 F (n + 13) c3 c4 W9 LF (own_byt o39) (own_byt o49) (by omega)
      go_wp2_with fail
      refine S2.out.mono ?_
      rintro e wA ⟨rfl, mA, rfl⟩
      clear S2
      have bA : Below W9.heap.size W9 (W9.drewN mA) := below_drewN (Below.refl _ _) mA
      have beA : Below w.heap.size w (W9.drewN mA) := below_drewN be9 mA
      have o3A := o39.below bA
      have o8A := o89.below bA
      have zA := bA.size
      clear o39 o49 o89 be9 bA
      generalize (W9.drewN mA) = WA at *
      have bB : Below WA.heap.size WA (WA.alloc (.cells (bkC (.slice none 0 0)) 49)) := (Below.refl _ _).alloc (Nat.le_refl _) _
      have N0 : BkN (WA.alloc (.cells (bkC (.slice none 0 0)) 49)) WA.heap.size WA.heap.size (.slice none 0 0) [] := ⟨heap_alloc_new _ _, World.ownsRow_nil _ _ _ _, by simp [Value.ownBlock]⟩
      have T1 := take_any WA.heap.size WA.heap.size (.slice none 0 0) [] a3 (n + 13) c3 _ N0 (by simp) (Nat.le_refl _)
      go_wp2_with fail
      refine Calls.mono T1 ?_
      rintro e wB ⟨rfl, ⟨all1, N1⟩, bT1⟩
      clear T1 N0
      have bB1 := bB.trans bT1
      clear bB bT1
      go_wp2_with fail
      refine (take_any _ _ all1 _ a8 (n + 13) c8 wB N1 (by simp) (Nat.le_refl _)).mono ?_
      rintro e wC ⟨rfl, ⟨all2, N2⟩, bT2⟩
      have bC : Below WA.heap.size WA wC := bB1.trans bT2
      clear bB1 bT2 N1
      have q0 := beA.size
      go_wp2_with fail
      refine (book_any WA.heap.size w.heap.size all2 a3 a8 (n + 13) c3 (n + 13) c8 F F wC LF LF (by omega) (by omega) N2 q0 (own_base (o3A.below bC) (by omega)) (own_base (o8A.below bC) (by omega)) (fun k hk => ⟨by have := r3 k hk; omega, fun h' => by have := r3 k hk; have := own_block o8A h'; omega⟩) (fun k hk => ⟨(own_block o8A hk).2, fun h' => by have := r3 k h'; have := own_block o8A hk; omega⟩)).mono ?_
      rintro e wD ⟨rfl, bD⟩
      go_wp2_with fail
      go_ret
      exact ⟨rfl, (beA.trans (bC.mono q0)).trans bD⟩
end Go.Proofs.YtcpkdaebeopmaaaDoor
