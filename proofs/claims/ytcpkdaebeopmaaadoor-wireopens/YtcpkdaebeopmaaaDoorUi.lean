import Derived.Test.YtcpkdaebeopmaaaDoorSealW
import Derived.WalkLawsBesides
namespace Go.Proofs.YtcpkdaebeopmaaaDoor
open Go.RowKit
set_option linter.unusedVariables false
set_option linter.unusedSimpArgs false

def vint (v : Nat) : List UInt8 := if h : v < 128 then [UInt8.ofNat v] else UInt8.ofNat (v % 128 + 128) :: vint (v / 128)
termination_by v
decreasing_by omega
theorem vint_lt {v : Nat} (h : v < 128) : vint v = [UInt8.ofNat v] := by rw [vint]; simp [h]
theorem vint_ge {v : Nat} (h : ¬ v < 128) : vint v = UInt8.ofNat (v % 128 + 128) :: vint (v / 128) := by rw [vint]; simp [h]
theorem or128N : ∀ x, x < 256 → bits .or .u8 ((x : Nat) : Int) 128 = ((x % 128 + 128 : Nat) : Int) := by decide +kernel
theorem shr7 (n : Nat) : Int.fdiv (n : Int) (2 ^ min (Int.toNat 7) IntKind.u64.bits) = ((n / 128 : Nat) : Int) := by
  rw [show (2 : Int) ^ min (Int.toNat 7) IntKind.u64.bits = 128 from rfl, Int.fdiv_eq_ediv_of_nonneg _ (by decide)]
  omega
theorem add_one (q base : Nat) (L : List UInt8) (k : UInt8) (kv : Int) (hk : kv = (k.toNat : Int)) (w : World) (hw : WAt w q base L) (hsum : L.length + 1 ≤ 140737488355328) (hbq : base ≤ q) :
    Calls Tryd.prog 31 #[.pointer (some ⟨q, 0, none⟩), .slice (some ⟨w.heap.size, 0, none⟩) 1 1] (w.alloc (.cells #[.int .u8 kv] 5)) fun e w' => e = .returned (.tuple #[]) ∧ WAt w' q base (L ++ [k]) ∧ Below base w w' := by
  subst hk
  have be : Below w.heap.size w (w.alloc (.cells (bs [k]) 5)) := (Below.refl _ _).alloc (Nat.le_refl _) _
  have zq := hw.lt
  exact (add_any q base L [k] (some ⟨w.heap.size, 0, none⟩) 1 1 (w.alloc (.cells (bs [k]) 5)) (hw.below be) rfl (byt_lit w [k] 5) (by simpa using hsum) hbq).mono fun e w' ⟨h1, h2, h3⟩ => ⟨h1, h2, (be.mono (by omega)).trans h3⟩

set_option maxRecDepth 100000 in
set_option maxHeartbeats 1000000 in
theorem uint_any (q base : Nat) (L : List UInt8) (v : Nat) (hv : v < 18446744073709551616) (w : World) (hw : WAt w q base L) (hsum : L.length + 64 ≤ 140737488355328) (hbq : base ≤ q) :
    Calls Tryd.prog 15 #[.pointer (some ⟨q, 0, none⟩), .int .u64 (v : Int)] w fun e w' => e = .returned (.tuple #[]) ∧ WAt w' q base (L ++ vint v) ∧ Below base w w' := by
  have HV : Hid (v < 18446744073709551616) := hv
  have HS : Hid (L.length + 64 ≤ 140737488355328) := hsum
  clear hv hsum
  go_enter Tryd.func15, Tryd.ntmps15
  go_wp2_with fail
  go_loopw [1] (fun x wr => ∃ (n : Nat) (P : List UInt8), x = .int .u64 (n : Int) ∧ n ≤ v ∧ P ++ vint n = vint v ∧ P.length < 64 ∧ n * 128 ^ P.length ≤ v ∧ WAt wr q base (L ++ P) ∧ Below base w wr) (fun x _ => (intOf x).toNat)
  case atStart => exact ⟨v, [], rfl, Nat.le_refl _, rfl, by simp, by simp, by simpa using hw, Below.refl _ _⟩
  case round =>
    obtain ⟨n, P, rfl, hn, hP, hPl, hPv, hwr, hbel⟩ := hrel
    have HW : Hid (WAt wr q base (L ++ P)) := hwr
    have HQ : Hid (P ++ vint n = vint v ∧ n * 128 ^ P.length ≤ v ∧ n ≤ v) := ⟨hP, hPv, hn⟩
    clear hwr hP hPv hn
    have HPS : Hid ((L ++ P).length + 1 ≤ 140737488355328) := by show _ ≤ _; have := HS.out; rw [List.length_append]; omega
    by_cases hlt : n < 128
    · have hlt' : (n : Int) < 128 := by omega
      go_wp2_with fail
      refine (add_one q base (L ++ P) (UInt8.ofNat n) (n : Int) (by rw [UInt8.toNat_ofNat']; omega) wr HW.out HPS.out hbq).mono ?_
      rintro e w1 ⟨rfl, a1, b1⟩
      have hQ : L ++ P ++ [UInt8.ofNat n] = L ++ vint v := by rw [← HQ.out.1, vint_lt hlt, List.append_assoc]
      rw [hQ] at a1
      have A1 : Hid (WAt w1 q base (L ++ vint v)) := a1
      have B1 := hbel.trans b1
      clear a1 b1 hbel hQ
      go_wp2
      go_end0
      exact ⟨rfl, A1.out, B1⟩
    · have hlt' : ¬ (n : Int) < 128 := by omega
      have hbt : bits .or .u8 ((n : Int) % 256) 128 = ((UInt8.ofNat (n % 128 + 128)).toNat : Int) := by
        have := or128N (n % 256) (by omega)
        rw [show (((n % 256 : Nat)) : Int) = (n : Int) % 256 by omega] at this
        rw [this, UInt8.toNat_ofNat']
        omega
      go_wp2_with fail
      refine (add_one q base (L ++ P) (UInt8.ofNat (n % 128 + 128)) _ (by rw [UInt8.toNat_ofNat']; omega) wr HW.out HPS.out hbq).mono ?_
      rintro e w1 ⟨rfl, a1, b1⟩
      have A1 : Hid (WAt w1 q base (L ++ P ++ [UInt8.ofNat (n % 128 + 128)])) := a1
      have B1 := hbel.trans b1
      clear a1 b1 hbel hbt
      go_wp2
      go_roundw
      case rel =>
        obtain ⟨q1, q2, q3⟩ := HQ.out
        have h128 : n / 128 * 128 ^ (P.length + 1) ≤ v := by
          rw [Nat.pow_succ, Nat.mul_comm (128 ^ P.length) 128, ← Nat.mul_assoc]
          exact Nat.le_trans (Nat.mul_le_mul_right _ (Nat.div_mul_le_self n 128)) q2
        have hlen : P.length + 1 < 64 := by
          have hv := HV.out
          have h1 : 1 * 128 ^ (P.length + 1) ≤ v := Nat.le_trans (Nat.mul_le_mul_right _ (by omega)) h128
          have h2 : 128 ^ (P.length + 1) < 128 ^ 64 := by
            have : (18446744073709551616 : Nat) < 128 ^ 64 := by decide
            omega
          exact (Nat.pow_lt_pow_iff_right (by decide)).1 h2
        refine ⟨n / 128, P ++ [UInt8.ofNat (n % 128 + 128)], by first | rfl | (congr 1; omega), by omega, ?_, by simpa using hlen, by simpa using h128, by rw [← List.append_assoc]; exact A1.out, B1⟩
        rw [← q1, vint_ge hlt]
        simp
      case measure => simp [intOf]; omega
theorem vint300 : vint 300 = [172, 2] := by rw [vint_ge (by decide), vint_lt (by decide)]; rfl
end Go.Proofs.YtcpkdaebeopmaaaDoor
