import Derived.Test.YtpjkhkobjhnahaaDoorPadded
import Derived.Test.YtpjkhkobjhnahaaDoorRSum
namespace Go.Proofs.YtpjkhkobjhnahaaDoor
open Go.RowKit
set_option linter.unusedVariables false
set_option linter.unusedSimpArgs false
theorem fill_spl (x : List UInt8) (h : x.length ≤ 64) : (splice (byC z64) 0 (byC x)).toArray = bs (fill x) := fill_splice x h
theorem make64 (wx : World) : (Instr.makeSlice 26 (.int .i64 64) (.int .i64 64)).run Tryd.prog wx = .ok (.slice (some ⟨wx.heap.size, 0, none⟩) 64 64) (wx.alloc (.cells (bs z64) 5)) := by
  have hmk := run_make_row' (P := Tryd.prog) 26 5 (.int .u8 0) 1 Tryd.underlying26 Tryd.info5 rfl .i64 .i64 64 (by omega) (by omega) wx
  rw [made_bs] at hmk
  exact hmk

set_option maxRecDepth 100000 in
set_option maxHeartbeats 2000000 in
theorem rpadded_short (a : Option Addr) (l : List UInt8) (len cap : Nat) (p : UInt8) (pv : Int) (hpv : pv = (p.toNat : Int)) (w : World) (hlen : l.length = len) (hb : Byt w a l) (hl : l.length ≤ 64) :
    Calls Tryd.prog 34 #[.slice a len cap, .int .u8 pv] w fun e w' => ∃ g, e = .returned (.slice (some ⟨g, 0, none⟩) 64 64) ∧ w.heap.size ≤ g ∧ w'.heap[g]? = some (.cells (bs (xorB (kb l) p)) 5 (0, 0)) ∧ Below w.heap.size w w' := by
  have hkb : kb l = fill l := by unfold kb; rw [if_pos hl]
  have KL := kb_len l
  have HPV : Hid (pv = (p.toNat : Int)) := hpv
  have hmk := make64
  have hl2 : (len : Int) ≤ 64 := by omega
  have bl0 : Below w.heap.size w (w.alloc (.cells (bs z64) 5)) := (Below.refl _ _).alloc (Nat.le_refl _) _
  have B1 := byt_below hb bl0
  have HP : Hid (0 < (byC l).length → (some (⟨w.heap.size, 0, none⟩ : Addr)) = some ⟨w.heap.size, 0, none⟩ ∧ ∃ ad, a = some ad ∧ ∀ j v, (byC l)[j]? = some v → (w.alloc (.cells (bs z64) 5)).cell? (ad.add j) = some v) := fun h0 => by
    rcases B1 with rfl | ⟨b, off, rfl, hc⟩
    · simp [byC] at h0
    · exact ⟨rfl, _, rfl, fun j v hj => by
        obtain ⟨h1, rfl⟩ := byC_get _ j v hj
        rw [Addr.add_mid]
        exact hc j h1⟩
  have HN : Hid ((byC l).length = Nat.min len 64) := by show _ = _; rw [byC_len, hlen]; exact (Nat.min_eq_left (by omega)).symm
  have HFit : Hid (0 + (byC l).length ≤ (byC z64).length) := by show _ ≤ _; rw [byC_len, byC_len]; simpa [z64] using hl
  have SP : Hid ((splice (byC z64) 0 (byC l)).toArray = bs (kb l)) := by show _ = _; rw [hkb]; exact fill_spl l hl
  have HG : Hid ((w.alloc (.cells (bs z64) 5)).heap[w.heap.size]? = some (.cells (byC z64).toArray 5 (0, 0))) := heap_alloc_new _ _
  have HB : Hid (Below w.heap.size w (w.alloc (.cells (bs z64) 5))) := bl0
  clear hpv hkb bl0 B1
  go_enter Tryd.func34, Tryd.ntmps34
  go_wp2_with (refine wpList_copy_splice rfl (.tmp 15) (.tmp 16) 26 26 rfl 5 Tryd.underlying26 hsz5 (some ⟨w.heap.size, 0, none⟩) a 64 64 len cap rfl rfl w.heap.size 0 (byC z64) 5 HG.out (byC l) HN.out HP.out HFit.out (byC_one _) w.heap.size w HB.out (Nat.le_refl _) ?_)
  intro w4 hg4 BW
  clear hmk HP HN HFit HG HB
  obtain ⟨G, hGG⟩ : ∃ G, G = w.heap.size := ⟨_, rfl⟩
  have GL : w.heap.size ≤ G := by omega
  rw [← hGG] at hg4 ⊢
  clear hGG
  have hG := hg4.out
  rw [SP.out] at hG
  go_wp2
  go_loopw [7] (fun i wr => ∃ k : Nat, k ≤ 64 ∧ i = .int .i64 k ∧ wr.heap[G]? = some (.cells (bs (xorTo (kb l) p k)) 5 (0, 0)) ∧ Below G w4 wr) (fun i _ => 64 - (intOf i).toNat)
  case atStart => exact ⟨0, by omega, rfl, by rw [xorTo_zero]; exact hG, Below.refl _ _⟩
  case round =>
    obtain ⟨k, hk, rfl, hg, hbel⟩ := hrel
    have hlt : G < wr.heap.size := (Array.getElem?_eq_some_iff.1 hg).1
    by_cases h1 : k < 64
    · have hc := (cell_of_row wr G k _ _ _ hg).trans (bs_get _ k (by rw [xorTo_len]; omega))
      rw [xorTo_at _ _ _ (by omega)] at hc
      have hf := frozen_of_row wr G k _ _ hg
      have hx : bits .xor .u8 (at8 (kb l) k) pv = (((kb l).getD k 0 ^^^ p).toNat : Int) := by rw [HPV.out]; exact xor_bits8 (kb l) p k
      generalize hv : (kb l).getD k 0 ^^^ p = v at hx
      have HV : Hid ((kb l).getD k 0 ^^^ p = v) := hv
      clear hv
      go_wp2
      go_roundw
      case rel =>
        refine ⟨k + 1, by omega, by go_num, ?_, hbel.setCell (Nat.le_refl _) _⟩
        rw [heap_setCell_same wr G k _ 5 _ hg, bs_set, ← HV.out, xorTo_succ _ _ _ (by omega)]
      case measure => simp [intOf]; omega
    · have hk2 : k = 64 := by omega
      subst hk2
      rw [xorTo_all _ _ _ (by omega)] at hg
      go_wp2
      go_ret
      exact ⟨G, rfl, GL, hg, BW.trans (hbel.mono GL)⟩

set_option maxRecDepth 100000 in
set_option maxHeartbeats 2000000 in
theorem rpadded_long (a : Option Addr) (l : List UInt8) (len cap : Nat) (p : UInt8) (pv : Int) (hpv : pv = (p.toNat : Int)) (w : World) (hlen : l.length = len) (hb : Byt w a l) (hl : 64 < l.length) (hlm : l.length ≤ 140737488355200) (hK : RoundsAt w) (hF : RootsAt w) (h5 : 5 ≤ w.heap.size) :
    Calls Tryd.prog 34 #[.slice a len cap, .int .u8 pv] w fun e w' => ∃ g, e = .returned (.slice (some ⟨g, 0, none⟩) 64 64) ∧ w.heap.size ≤ g ∧ w'.heap[g]? = some (.cells (bs (xorB (kb l) p)) 5 (0, 0)) ∧ Below w.heap.size w w' := by
  have hkb : kb l = fill (sha l) := by unfold kb; rw [if_neg (by omega)]
  have KL := kb_len l
  have HPV : Hid (pv = (p.toNat : Int)) := hpv
  have hmk := make64
  have hl2 : (64 : Int) < (len : Int) := by omega
  have LT := sha_len l
  go_enter Tryd.func34, Tryd.ntmps34
  go_wp2_with fail
  refine (rsum_any a l len cap w hlen hb hlm hK hF h5).mono ?_
  rintro e w1 ⟨rfl, hb1⟩
  have SP : Hid (((bs z64).toList.take 0 ++ (byC (sha l) ++ (bs z64).toList.drop (0 + (byC (sha l)).length))).toArray = bs (kb l)) := by show _ = _; rw [hkb]; exact fill_splice _ (by omega)
  generalize sha l = T at *
  have i24 : Hid ((Tryd.prog.info? 24).map (·.size) = some (bs T).size) := by show _ = _; rw [bs_size, LT]; exact hs24
  have o24 : Hid ((bs z32).size = (bs T).size) := by show _ = _; rw [bs_size, bs_size, LT]; rfl
  have z1 := hb1.size
  have gT : (w1.alloc (.cells (bs T) 24)).heap[w1.heap.size]? = some (.cells (bs T) 24 (0, 0)) := heap_alloc_new _ _
  have be1 : Below w.heap.size w (w1.alloc (.cells (bs T) 24)) := hb1.alloc (by omega) _
  have zz1 : w.heap.size ≤ (w1.alloc (.cells (bs T) 24)).heap.size := by simp; omega
  have HS : Hid (∀ j v, (byC T)[j]? = some v → ((w1.alloc (.cells (bs T) 24)).alloc (.cells (bs z64) 5)).cell? ((⟨w1.heap.size, 0, none⟩ : Addr).add j) = some v) := fun j v hj => by
    obtain ⟨h1, rfl⟩ := byC_get _ j v hj
    rw [Addr.add_mid, Nat.zero_add]
    exact (cell_of_row _ w1.heap.size j _ _ _ (by rw [Below.heap_alloc _ _ _ (Array.getElem?_eq_some_iff.1 gT).1]; exact gT)).trans (bs_get _ j h1)
  have HN : Hid ((byC T).length = Nat.min 32 64) := by show _ = _; rw [byC_len, LT]; rfl
  have HFit : Hid (0 + (byC T).length ≤ (bs z64).size) := by show _ ≤ _; rw [byC_len, bs_size, LT]; decide
  clear hpv hkb hb1
  generalize hW1 : (w1.alloc (.cells (bs T) 24)) = W1 at *
  have HW1 : Hid ((w1.alloc (.cells (bs T) 24)) = W1) := hW1
  clear hW1
  go_wp2_with (first | (refine wpList_alloc_row rfl 24 rfl (bs z32) (hz24 _) ?_) | (refine wpList_store_row rfl 24 (.tmp 5) (.tmp 12) rfl w1.heap.size (bs T) rfl rfl 24 (bs z32) (heap_alloc_new _ _) i24.out o24.out (bs_one _) ?_; rw [World.setRow_alloc_new, HW1.out]) | (refine wpList_copy_own rfl (.tmp 15) (.tmp 16) 26 26 rfl 5 Tryd.underlying26 hsz5 W1.heap.size 0 64 64 ⟨w1.heap.size, 0, none⟩ 32 32 rfl rfl (bs z64) 5 (heap_alloc_new _ _) (byC T) HN.out HS.out HFit.out (byC_one _) ?_; rw [SP.out, World.setRow_alloc_new]) | fail)
  have hg4 : (W1.alloc (.cells (bs (kb l)) 5)).heap[W1.heap.size]? = some (.cells (bs (kb l)) 5 (0, 0)) := heap_alloc_new _ _
  have BW : Below w.heap.size w (W1.alloc (.cells (bs (kb l)) 5)) := be1.alloc zz1 _
  generalize (W1.alloc (.cells (bs (kb l)) 5)) = w4 at *
  clear hmk HS HN HFit
  obtain ⟨G, hGG⟩ : ∃ G, G = W1.heap.size := ⟨_, rfl⟩
  have GL : w.heap.size ≤ G := by omega
  rw [← hGG] at hg4 ⊢
  clear hGG
  have hG := hg4
  go_loopw [7] (fun i wr => ∃ k : Nat, k ≤ 64 ∧ i = .int .i64 k ∧ wr.heap[G]? = some (.cells (bs (xorTo (kb l) p k)) 5 (0, 0)) ∧ Below G w4 wr) (fun i _ => 64 - (intOf i).toNat)
  case atStart => exact ⟨0, by omega, rfl, by rw [xorTo_zero]; exact hG, Below.refl _ _⟩
  case round =>
    obtain ⟨k, hk, rfl, hg, hbel⟩ := hrel
    have hlt : G < wr.heap.size := (Array.getElem?_eq_some_iff.1 hg).1
    by_cases h1 : k < 64
    · have hc := (cell_of_row wr G k _ _ _ hg).trans (bs_get _ k (by rw [xorTo_len]; omega))
      rw [xorTo_at _ _ _ (by omega)] at hc
      have hf := frozen_of_row wr G k _ _ hg
      have hx : bits .xor .u8 (at8 (kb l) k) pv = (((kb l).getD k 0 ^^^ p).toNat : Int) := by rw [HPV.out]; exact xor_bits8 (kb l) p k
      generalize hv : (kb l).getD k 0 ^^^ p = v at hx
      have HV : Hid ((kb l).getD k 0 ^^^ p = v) := hv
      clear hv
      go_wp2
      go_roundw
      case rel =>
        refine ⟨k + 1, by omega, by go_num, ?_, hbel.setCell (Nat.le_refl _) _⟩
        rw [heap_setCell_same wr G k _ 5 _ hg, bs_set, ← HV.out, xorTo_succ _ _ _ (by omega)]
      case measure => simp [intOf]; omega
    · have hk2 : k = 64 := by omega
      subst hk2
      rw [xorTo_all _ _ _ (by omega)] at hg
      go_wp2
      go_ret
      exact ⟨G, rfl, GL, hg, BW.trans (hbel.mono GL)⟩
end Go.Proofs.YtpjkhkobjhnahaaDoor
