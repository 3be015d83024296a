import Derived.Test.YtdajeabhhkgibaaVp
import Derived.Test.YtdajeabhhkgibaaVh
namespace Go.Proofs.Ytdajeabhhkgibaa
open Go.RowKit
set_option linter.unusedVariables false
set_option linter.unusedSimpArgs false

/-- How many bits are set. -/
def cntW (ws : Nat → Nat) : Nat → Nat
  | 0 => 0
  | k + 1 => cntW ws k + PC.S 2 64 (ws k)
theorem cntW_le (ws : Nat → Nat) (k : Nat) : cntW ws k ≤ 64 * k := by
  induction k with
  | zero => simp [cntW]
  | succ k ih => have := PC.S2_le 64 (ws k); rw [cntW]; omega
theorem S2_small (r n x : Nat) (hx : x < 2 ^ r) : PC.S 2 n x ≤ r := by
  induction n generalizing r x with
  | zero => exact Nat.zero_le _
  | succ n ih =>
    cases r with
    | zero =>
      have : x = 0 := by simpa using hx
      subst this
      have := ih 0 0 (by simp)
      rw [PC.S]
      simpa using this
    | succ r =>
      have h2 : x / 2 < 2 ^ r := by rw [Nat.pow_succ] at hx; omega
      have := ih r (x / 2) h2
      rw [PC.S]
      omega
/-- No bit stands beyond. -/
def Within (ws : Nat → Nat) (bits : Nat) : Prop := ∀ n, bitAt ws n = true → n < bits
theorem Within.word {ws : Nat → Nat} {bits : Nat} (h : Within ws bits) (k : Nat) (hk : 64 * k ≤ bits) (hlt : ws k < 18446744073709551616) : ws k < 2 ^ (bits - 64 * k) := by
  refine Nat.lt_pow_two_of_testBit _ fun j hj => ?_
  by_cases hj64 : j < 64
  · have hb := h (64 * k + j)
    have e1 : (64 * k + j) / 64 = k := by omega
    have e2 : (64 * k + j) % 64 = j := by omega
    unfold bitAt at hb
    rw [e1, e2] at hb
    cases hc : (ws k).testBit j with
    | false => rfl
    | true => have := hb hc; omega
  · exact Nat.testBit_lt_two_pow (Nat.lt_of_lt_of_le hlt (Nat.le_trans (show 18446744073709551616 ≤ 2 ^ 64 by decide) (Nat.pow_le_pow_right (by omega) (by omega))))
theorem cntW_bits {ws : Nat → Nat} {bits : Nat} (h : Within ws bits) (hlt : ∀ i, ws i < 18446744073709551616) (k : Nat) (hk : k ≤ (bits + 63) / 64) : cntW ws k ≤ bits := by
  induction k with
  | zero => exact Nat.zero_le _
  | succ k ih =>
    have h1 := cntW_le ws k
    have h3 := S2_small _ 64 _ (h.word k (by omega) (hlt k))
    rw [cntW]
    omega
theorem cntW_zero (k : Nat) : cntW (fun _ => 0) k = 0 := by
  induction k with
  | zero => rfl
  | succ k ih => rw [cntW, ih]; rfl
set_option maxRecDepth 100000 in
set_option maxHeartbeats 4000000 in
theorem count_any (g m : Nat) (ws : Nat → Nat) (w : World) (h : WR w g m ws) (hw : ∀ i, ws i < 18446744073709551616) (hm : m ≤ 1024) :
    Calls Try.prog 72 #[.slice (some ⟨g, 0, none⟩) m m] w fun e w' => e = .returned (.int .i64 (cntW ws m : Int)) ∧ w' = w := by
  have HC : Hid (∀ k, k < m → w.cell? ⟨g, k, none⟩ = some (.int .u64 (ws k : Int))) := fun k hk => h.cell hk
  have HO := Hid.mk' (fun k => ones_any (ws k) w (hw k))
  clear h hw
  go_enter Try.func72, Try.ntmps72
  go_wp2
  go_loopw [3, 8] (fun n i wr => ∃ k : Nat, k ≤ m ∧ i = .int .i64 (k : Int) ∧ n = .int .i64 (cntW ws k : Int) ∧ wr = w) (fun _ i _ => m - (intOf i).toNat)
  case atStart => exact ⟨0, by omega, rfl, rfl, rfl⟩
  case round =>
    obtain ⟨k, hk, rfl, rfl, rfl⟩ := hrel
    by_cases hkm : k < m
    · have hkm' : (k : Int) < (m : Int) := by omega
      have hc := HC.out k hkm
      have ix := fun wx => index95 g m m k wx hkm
      have l1 := cntW_le ws k
      have l2 := PC.S2_le 64 (ws k)
      have HN : Hid (cntW ws (k + 1) = cntW ws k + PC.S 2 64 (ws k)) := rfl
      have HOk := Hid.mk' (HO.out k)
      generalize PC.S 2 64 (ws k) = s at *
      generalize hcc : cntW ws k = c at *
      clear hcc
      generalize ws k = x at *
      go_wp2_with (first
        | (go_at_call 118; refine HOk.out.mono ?_; rintro e W ⟨rfl, hw⟩; obtain rfl := hw.symm)
        | fail)
      exact ⟨⟨k + 1, by omega, by go_num, by rw [HN.out]; go_num, trivial⟩, by simp [intOf]; omega⟩
    · obtain rfl : k = m := by omega
      have hkm' : ¬ (k : Int) < (k : Int) := by omega
      go_wp2
      go_ret
      exact ⟨rfl, rfl⟩
set_option maxRecDepth 100000 in
theorem set_any (q g bits probes : Nat) (ws : Nat → Nat) (w : World) (h : FW w q g bits probes ws) (hw : ∀ i, ws i < 18446744073709551616) (hb : bits ≤ 65536) :
    Calls Try.prog 33 #[.pointer (some ⟨q, 0, none⟩)] w fun e w' => e = .returned (.int .i64 (cntW ws ((bits + 63) / 64) : Int)) ∧ w' = w := by
  have HC := Hid.mk' (count_any g ((bits + 63) / 64) ws w h.wr hw (by omega))
  have c2 := h.fc.c2
  clear h hw
  generalize (bits + 63) / 64 = m at *
  go_enter Try.func33, Try.ntmps33
  go_wp2_with (first
    | (go_at_call 72; refine HC.out.mono ?_; rintro e W ⟨rfl, hw⟩; obtain rfl := hw.symm)
    | fail)
  go_ret
  exact ⟨rfl, rfl⟩
end Go.Proofs.Ytdajeabhhkgibaa
