import Derived.Test.YtnbdohomaadbfaaZc
import Derived.Test.YtnbdohomaadbfaaVw
namespace Go.Proofs.Ytnbdohomaadbfaa
open Go.RowKit
set_option linter.unusedVariables false
set_option linter.unusedSimpArgs false

theorem WH.done {w W : World} {M : List UInt8} (h : WH w W M) (h0 : 0 < M.length) (hM : M.length ≤ 1000000) : Calls Try.prog 104 #[.pointer (some ⟨w.heap.size, 0, none⟩)] W fun x w' => ∃ b cv, x = .returned (.tuple #[.slice (some ⟨b, 0, none⟩) M.length cv, .int .i64 0]) ∧ (∀ W2, Below w'.heap.size w' W2 → K.Byt W2 (some ⟨b, 0, none⟩) M) ∧ Below W.heap.size W w' := by
  obtain ⟨g', ws, fr, nw⟩ := h
  refine (K.xdone_own W ws (by omega)).mono ?_
  rintro e W' ⟨v, rfl, ow, be⟩
  have e0 : K.dM M 0 = M := if_pos rfl
  rw [e0] at ow
  obtain ⟨b, cv, rfl, _⟩ := ow.open1 h0
  refine ⟨b, cv, rfl, fun W2 h2 => ?_, be⟩
  obtain ⟨a, c, e, k1, k2, k3⟩ := (ow.below h2).open
  cases e
  exact k2
theorem wrap8_pow (r : Nat) (hr : r < 8) : IntKind.u8.wrap (2 ^ r) = ((2 ^ r : Nat) : Int) ∧ 2 ^ r ≤ 128 := by
  have h1 : 2 ^ r ≤ 2 ^ 7 := Nat.pow_le_pow_right (by omega) (by omega)
  have h2 : (2 : Int) ^ r = ((2 ^ r : Nat) : Int) := by simp
  have h3 : (2 : Nat) ^ 7 = 128 := by decide
  refine ⟨?_, by omega⟩
  rw [IntKind.wrap_u8, h2]
  generalize (2 ^ r : Nat) = z at *
  omega
set_option maxRecDepth 100000 in
set_option maxHeartbeats 8000000 in
theorem renc_any (q g bits probes : Nat) (ws : Nat → Nat) (w : World) (hF : RW w q g bits probes (bitAt ws)) (hb0 : 8 ≤ bits) (hb1 : bits ≤ 65536) (hb2 : bits % 8 = 0) (hp : probes ≤ 16) :
    Calls Try.prog 56 #[.pointer (some ⟨q, 0, none⟩)] w (EnPost (encF bits probes ws) w) := by
  have HFW : Hid (∀ W, Below w.heap.size w W → RW W q g bits probes (bitAt ws)) := fun W hb => hF.below hb
  have v1 := K.vint_10 bits (by omega)
  have hpb : (probes : Int) = ((UInt8.ofNat probes).toNat : Int) := by rw [UInt8.toNat_ofNat']; omega
  have HPB := Hid.mk' hpb
  clear hpb
  have HE : Hid ([] ++ K.vint bits ++ [UInt8.ofNat probes] ++ (K.vint (bits / 8) ++ bytesW ws (bits / 8)) = encF bits probes ws) := by show _ = _; unfold encF; simp
  have HPos := Hid.mk' (encF_pos bits probes ws)
  have HLen := Hid.mk' (encF_len bits probes ws hb1)
  have c0 := hF.rc.c0
  have c1 := hF.rc.c1
  have HC0 : Hid (∀ W, Below w.heap.size w W → W.cell? ⟨q, 0, none⟩ = some (.slice (some ⟨g, 0, none⟩) bits bits)) := fun W h => (HFW.out W h).rc.c0
  have HC1 : Hid (∀ W, Below w.heap.size w W → W.cell? ⟨q, 1, none⟩ = some (.int .i64 (probes : Int))) := fun W h => (HFW.out W h).rc.c1
  have HCG : Hid (∀ W, Below w.heap.size w W → ∀ k, k < bits → W.cell? ⟨g, k, none⟩ = some (.bool (bitAt ws k))) := fun W h k hk => (HFW.out W h).rb.cell hk
  have e8 : (bits : Int).tdiv 8 = ((bits / 8 : Nat) : Int) := by rw [Int.tdiv_eq_ediv_of_nonneg (by omega)]; omega
  have e9 : (bits : Int) / 8 = ((bits / 8 : Nat) : Int) := by omega
  have HL8 : Hid ((bytesW ws (bits / 8)).length = bits / 8) := bytesW_len _ _
  have HG8 : Hid (∀ j, j < bits / 8 → (bytesW ws (bits / 8)).getD j 0 = byW ws j) := fun j hj => bytesW_get ws _ j hj
  have h8 : bits / 8 ≤ 8192 := by omega
  have H8B : Hid (bits = 8 * (bits / 8)) := by show _ = _; omega
  have mk2 := run_make_row' (P := Try.prog) 53 5 (.int .u8 0) 1 Try.underlying53 info5x rfl .i64 .i64 (bits / 8) (by omega) (by omega)
  have H0 : Hid ((w.alloc (.cells (madeCells #[.int .u8 0] (bits / 8)) 5)).rowIs w.heap.size 5 (bits / 8) (fun j => .int .u8 (pB ws 0 j : Int))) := (World.rowIs_made w (.int .u8 0) (bits / 8) 5).congr (fun j _ => by rw [pB_zero]; rfl)
  have HB0 : Hid (Below w.heap.size w (w.alloc (.cells (madeCells #[.int .u8 0] (bits / 8)) 5))) := (Below.refl _ _).alloc (Nat.le_refl _) _
  clear hF hb2
  generalize hwid : bytesW ws (bits / 8) = BB at *
  generalize encF bits probes ws = EN at *
  generalize bits / 8 = n8 at *
  clear hwid
  go_enter Try.func56, Try.ntmps56
  go_wp2
  clear mk2
  generalize hB : w.heap.size = B at *
  have HBB := Hid.mk' hB
  clear hB
  go_loopw [4] (fun i wr => ∃ k : Nat, k ≤ bits ∧ i = .int .i64 (k : Int) ∧ Hid (wr.rowIs B 5 n8 (fun j => .int .u8 (pB ws k j : Int))) ∧ Hid (Below B w wr)) (fun i _ => bits - (intOf i).toNat)
  case atStart => exact ⟨0, by omega, rfl, H0, HB0⟩
  case round =>
    obtain ⟨k, hk, rfl, HR, HBe⟩ := hrel
    clear H0 HB0 c0 c1
    have a0 := HC0.out wr HBe.out
    by_cases hkb : k < bits
    · have hkb' : (k : Int) < (bits : Int) := by omega
      have ag := HCG.out wr HBe.out k hkb
      have ix := fun wx => index99 g bits bits k wx hkb
      have hd : k / 8 < n8 := by have := H8B.out; omega
      obtain ⟨hst, hlt⟩ := pB_step ws k
      have hr8 : k % 8 < 8 := Nat.mod_lt _ (by omega)
      cases hbit : bitAt ws k with
      | false =>
        rw [hbit] at ag hst
        have HN : Hid (wr.rowIs B 5 n8 (fun j => .int .u8 (pB ws (k + 1) j : Int))) := HR.out.congr fun j _ => by
          by_cases e : j = k / 8
          · rw [e, hst]; rfl
          · rw [pB_other ws k j e]
        clear hst hlt
        go_wp2
        exact ⟨⟨k + 1, by omega, by go_num, HN, HBe⟩, by simp [intOf]; omega⟩
      | true =>
        rw [hbit] at ag hst
        rw [if_pos rfl] at hst
        obtain ⟨hw1, hw2⟩ := wrap8_pow (k % 8) hr8
        have hsum : pB ws k (k / 8) + 2 ^ (k % 8) ≤ 255 := by
          have h7 : 2 ^ (k % 8) ≤ 128 := hw2
          omega
        have ix2 := fun wx => index53 B n8 n8 (k / 8) wx hd
        have e1 : (k : Int).tdiv 8 = ((k / 8 : Nat) : Int) := by rw [Int.tdiv_eq_ediv_of_nonneg (by omega)]; omega
        have e2 : (k : Int).tmod 8 = ((k % 8 : Nat) : Int) := by rw [Int.tmod_eq_emod_of_nonneg (by omega)]; omega
        have cb : wr.cell? ⟨B, k / 8, none⟩ = some (.int .u8 (pB ws k (k / 8) : Int)) := HR.out.cell hd
        have fb : wr.frozen? ⟨B, k / 8, none⟩ = false := HR.out.frozen _
        have HN : Hid ((wr.setCell ⟨B, k / 8, none⟩ (.int .u8 ((pB ws k (k / 8) : Int) + ((2 ^ (k % 8) : Nat) : Int)))).drew.rowIs B 5 n8 (fun j => .int .u8 (pB ws (k + 1) j : Int))) := (HR.out.set (k / 8) _).congr fun j _ => by
          by_cases e : j = k / 8
          · rw [if_pos e, e, hst]; rfl
          · rw [if_neg e, pB_other ws k j e]
        have HBN : Hid (Below B w (wr.setCell ⟨B, k / 8, none⟩ (.int .u8 ((pB ws k (k / 8) : Int) + ((2 ^ (k % 8) : Nat) : Int)))).drew) := (HBe.out.setCell (p := ⟨B, k / 8, none⟩) (Nat.le_refl _) _).drew
        clear hst hlt
        generalize pB ws k (k / 8) = x at *
        generalize k / 8 = d at *
        generalize k % 8 = r at *
        generalize hy : (2 ^ r : Nat) = y at *
        have hy1 : 0 ≤ y := by omega
        clear hy
        go_wp2
        go_region
        go_wp2
        exact ⟨⟨k + 1, by omega, by go_num, HN, HBN⟩, by simp [intOf]; omega⟩
    · obtain rfl : k = bits := by omega
      have hkb' : ¬ (k : Int) < (k : Int) := by omega
      have a1 := HC1.out wr HBe.out
      have HBY : Hid (∀ W, Below wr.heap.size wr W → K.Byt W (some ⟨B, 0, none⟩) BB) := fun W hW => by
        have hr : wr.rowIs B 5 n8 (fun j => .int .u8 ((BB.getD j 0).toNat : Int)) := HR.out.congr fun j hj => by
          rw [HG8.out j hj]
          have := pB_all ws n8 j hj
          rw [← H8B.out] at this
          rw [this]
        exact K.byt_below (byt_row HL8.out hr) hW
      have hBlt : Hid (B < wr.heap.size) := HR.out.lt
      have HSZ : Hid (B ≤ wr.heap.size) := Nat.le_of_lt HR.out.lt
      have HG0 := Hid.mk' (WH.start wr)
      have HCC0 : Hid (∀ W, Below wr.heap.size wr W → W.cell? ⟨q, 0, none⟩ = some (.slice (some ⟨g, 0, none⟩) k k)) := fun W hW => HC0.out W (HBe.out.trans (hW.mono HSZ.out))
      have HCC1 : Hid (∀ W, Below wr.heap.size wr W → W.cell? ⟨q, 1, none⟩ = some (.int .i64 (probes : Int))) := fun W hW => HC1.out W (HBe.out.trans (hW.mono HSZ.out))
      have b0 := HCC0.out _ HG0.out.below
      clear HC0 HC1 HCG HFW HG8 HR
      go_wp2_with (first
        | (go_at_call 101; refine (HG0.out.uint k (by omega) (by simp)).mono ?_; rintro e W1 ⟨rfl, g1⟩; have G1 := Hid.mk' g1; clear g1; have b1 := HCC1.out _ G1.out.below)
        | (go_at_call 102; refine (G1.out.byte (UInt8.ofNat probes) _ HPB.out (by simp; omega)).mono ?_; rintro e W2 ⟨rfl, g2⟩; have G2 := Hid.mk' g2; clear g2)
        | (go_at_call 103; refine (G2.out.raw (B := BB) B n8 n8 HL8.out (HBY.out _ G2.out.below) hBlt.out (by simp; omega) (by rw [HL8.out]; omega)).mono ?_; rintro e W3 ⟨rfl, g3⟩; rw [HE.out] at g3; have G3 := Hid.mk' g3; clear g3)
        | (go_at_call 104; refine (G3.out.done HPos.out (by have := HLen.out; omega)).mono ?_; rintro e W4 ⟨b4, c4, rfl, y4, l4⟩; have Y4 := Hid.mk' y4; have B4 := Hid.mk' (HBe.out.trans ((G3.out.below.trans (l4.mono G3.out.below.size)).mono HSZ.out)); clear y4 l4)
        | fail)
      go_ret
      refine ⟨b4, c4, rfl, Y4.out, ?_⟩
      rw [HBB.out]
      exact B4.out
end Go.Proofs.Ytnbdohomaadbfaa
