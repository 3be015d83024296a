import Derived.Test.YtdajeabhhkgibaaVa
import Derived.Laws.BitsLemmas
namespace Go.Proofs.Ytdajeabhhkgibaa.PC
set_option linter.unusedVariables false
set_option linter.unusedSimpArgs false

/-- The sum of n digits to the base B. -/
def S (B : Nat) : Nat → Nat → Nat
  | 0, _ => 0
  | n + 1, x => x % B + S B n (x / B)
def M (B c : Nat) : Nat → Nat
  | 0 => 0
  | n + 1 => c + B * M B c n
theorem and_split (k x c m : Nat) (hc : c < 2 ^ k) : x &&& (c + 2 ^ k * m) = ((x % 2 ^ k) &&& c) + 2 ^ k * ((x / 2 ^ k) &&& m) := by
  have h1 : (x &&& (c + 2 ^ k * m)) / 2 ^ k = (x / 2 ^ k) &&& m := by
    rw [Nat.and_div_two_pow]
    congr 1
    rw [Nat.add_mul_div_left _ _ (Nat.two_pow_pos k), Nat.div_eq_of_lt hc, Nat.zero_add]
  have h2 : (x &&& (c + 2 ^ k * m)) % 2 ^ k = (x % 2 ^ k) &&& c := by
    rw [Nat.and_mod_two_pow, Nat.add_mul_mod_self_left, Nat.mod_eq_of_lt hc]
  have h3 := Nat.mod_add_div (x &&& (c + 2 ^ k * m)) (2 ^ k)
  rw [h1, h2] at h3
  exact h3.symm
def f1 (n x : Nat) : Nat := (x / 2 &&& M 4 1 n) + (x &&& M 4 1 n)
theorem f1_succ (n x : Nat) : f1 (n + 1) x = (x / 2 % 2 + x % 2) + 4 * f1 n (x / 4) := by
  unfold f1
  rw [M, show (4 : Nat) = 2 ^ 2 from rfl, and_split 2 (x / 2) 1 _ (by omega), and_split 2 x 1 _ (by omega)]
  have e1 : x / 2 % 2 ^ 2 &&& 1 = x / 2 % 2 := by rw [Nat.and_one_is_mod]; omega
  have e2 : x % 2 ^ 2 &&& 1 = x % 2 := by rw [Nat.and_one_is_mod]; omega
  have e3 : x / 2 / 2 ^ 2 = x / 2 ^ 2 / 2 := by omega
  rw [e1, e2, e3]
  omega
theorem f1_S (n x : Nat) : S 4 n (f1 n x) = S 2 (2 * n) x := by
  induction n generalizing x with
  | zero => rfl
  | succ n ih =>
    rw [S, f1_succ, show 2 * (n + 1) = 2 * n + 1 + 1 by omega, S, S]
    have e1 : (x / 2 % 2 + x % 2 + 4 * f1 n (x / 4)) % 4 = x / 2 % 2 + x % 2 := by omega
    have e2 : (x / 2 % 2 + x % 2 + 4 * f1 n (x / 4)) / 4 = f1 n (x / 4) := by omega
    rw [e1, e2, ih, show x / 2 / 2 = x / 4 by omega]
    omega
theorem and3 (x : Nat) : x &&& 3 = x % 4 := Nat.and_two_pow_sub_one_eq_mod x 2
theorem and15' (x : Nat) : x &&& 15 = x % 16 := Nat.and_two_pow_sub_one_eq_mod x 4
def f2 (n x : Nat) : Nat := (x / 4 &&& M 16 3 n) + (x &&& M 16 3 n)
theorem f2_succ (n x : Nat) : f2 (n + 1) x = (x / 4 % 4 + x % 4) + 16 * f2 n (x / 16) := by
  unfold f2
  rw [M, show (16 : Nat) = 2 ^ 4 from rfl, and_split 4 (x / 4) 3 _ (by omega), and_split 4 x 3 _ (by omega), and3, and3]
  have e3 : x / 4 / 2 ^ 4 = x / 2 ^ 4 / 4 := by omega
  rw [e3]
  omega
theorem f2_S (n x : Nat) : S 16 n (f2 n x) = S 4 (2 * n) x := by
  induction n generalizing x with
  | zero => rfl
  | succ n ih =>
    rw [S, f2_succ, show 2 * (n + 1) = 2 * n + 1 + 1 by omega, S, S]
    have e1 : (x / 4 % 4 + x % 4 + 16 * f2 n (x / 16)) % 16 = x / 4 % 4 + x % 4 := by omega
    have e2 : (x / 4 % 4 + x % 4 + 16 * f2 n (x / 16)) / 16 = f2 n (x / 16) := by omega
    rw [e1, e2, ih, show x / 4 / 4 = x / 16 by omega]
    omega
/-- All digits to the base 16 are at most 6. -/
def D6 : Nat → Nat → Prop
  | 0, x => x = 0
  | n + 1, x => x % 16 ≤ 6 ∧ D6 n (x / 16)
theorem f2_D (n x : Nat) : D6 n (f2 n x) := by
  induction n generalizing x with
  | zero => show f2 0 x = 0; simp [f2, M]
  | succ n ih =>
    refine ⟨?_, ?_⟩
    · rw [f2_succ]; omega
    · rw [f2_succ]
      have e2 : (x / 4 % 4 + x % 4 + 16 * f2 n (x / 16)) / 16 = f2 n (x / 16) := by omega
      rw [e2]
      exact ih _
def f3 (n x : Nat) : Nat := (x / 16 + x) &&& M 256 15 n
theorem D6_mod {n x : Nat} (h : D6 n x) : x % 16 ≤ 6 := by
  cases n with
  | zero => rw [show x = 0 from h]; omega
  | succ n => exact h.1
theorem f3_succ (n x : Nat) (h : D6 (2 * (n + 1)) x) : f3 (n + 1) x = (x / 16 % 16 + x % 16) + 256 * f3 n (x / 256) := by
  have h0 : x % 16 ≤ 6 := D6_mod h
  have h1 : x / 16 % 16 ≤ 6 := D6_mod (show D6 (2 * n + 1) (x / 16) from h.2)
  have h2 : x / 16 / 16 % 16 ≤ 6 := D6_mod (show D6 (2 * n) (x / 16 / 16) from h.2.2)
  unfold f3
  rw [M, show (256 : Nat) = 2 ^ 8 from rfl, and_split 8 (x / 16 + x) 15 _ (by omega), and15']
  have e1 : (x / 16 + x) % 2 ^ 8 % 16 = x / 16 % 16 + x % 16 := by omega
  have e2 : (x / 16 + x) / 2 ^ 8 = x / 2 ^ 8 / 16 + x / 2 ^ 8 := by
    obtain ⟨d0, q0⟩ : ∃ d, x % 16 = d := ⟨_, rfl⟩
    obtain ⟨y, qy⟩ : ∃ d, x / 16 = d := ⟨_, rfl⟩
    have ex : x = d0 + 16 * y := by omega
    rw [qy] at h1 h2 ⊢
    obtain ⟨d1, q1⟩ : ∃ d, y % 16 = d := ⟨_, rfl⟩
    obtain ⟨z, qz⟩ : ∃ d, y / 16 = d := ⟨_, rfl⟩
    have ey : y = d1 + 16 * z := by omega
    rw [qz] at h2
    obtain ⟨d2, q2⟩ : ∃ d, z % 16 = d := ⟨_, rfl⟩
    obtain ⟨v, qv⟩ : ∃ d, z / 16 = d := ⟨_, rfl⟩
    have ez : z = d2 + 16 * v := by omega
    have g1 : x / 2 ^ 8 = z := by omega
    rw [g1, qv]
    clear g1 qv qz qy
    omega
  rw [e1, e2]
theorem f3_S (n x : Nat) (h : D6 (2 * n) x) : S 256 n (f3 n x) = S 16 (2 * n) x := by
  induction n generalizing x with
  | zero => rfl
  | succ n ih =>
    have h0 : x % 16 ≤ 6 := D6_mod h
    have h1 : x / 16 % 16 ≤ 6 := D6_mod (show D6 (2 * n + 1) (x / 16) from h.2)
    have h2 : D6 (2 * n) (x / 256) := by
      have := h.2.2
      rw [show x / 16 / 16 = x / 256 by omega] at this
      exact this
    rw [S, f3_succ n x h, show 2 * (n + 1) = 2 * n + 1 + 1 by omega, S, S]
    have e1 : (x / 16 % 16 + x % 16 + 256 * f3 n (x / 256)) % 256 = x / 16 % 16 + x % 16 := by omega
    have e2 : (x / 16 % 16 + x % 16 + 256 * f3 n (x / 256)) / 256 = f3 n (x / 256) := by omega
    rw [e1, e2, ih _ h2, show x / 16 / 16 = x / 256 by omega]
    omega
theorem S2_le (n x : Nat) : S 2 n x ≤ n := by
  induction n generalizing x with
  | zero => exact Nat.le_refl _
  | succ n ih =>
    have := ih (x / 2)
    rw [S]
    omega
theorem fold8 (y : Nat) (hy : y < 18446744073709551616) (hs : S 256 8 y ≤ 64) :
    (y + y / 256) + (y + y / 256) / 65536 + ((y + y / 256) + (y + y / 256) / 65536) / 4294967296 < 9223372036854775808 ∧
    ((y + y / 256) + (y + y / 256) / 65536 + ((y + y / 256) + (y + y / 256) / 65536) / 4294967296) % 128 = S 256 8 y := by
  simp only [S] at hs ⊢
  obtain ⟨e0, h0⟩ : ∃ e, y % 256 = e := ⟨_, rfl⟩
  obtain ⟨y1, k1⟩ : ∃ e, y / 256 = e := ⟨_, rfl⟩
  have z0 : y = e0 + 256 * y1 := by omega
  rw [h0, k1] at hs ⊢
  clear h0 k1
  obtain ⟨e1, h1⟩ : ∃ e, y1 % 256 = e := ⟨_, rfl⟩
  obtain ⟨y2, k2⟩ : ∃ e, y1 / 256 = e := ⟨_, rfl⟩
  have z1 : y1 = e1 + 256 * y2 := by omega
  rw [h1, k2] at hs ⊢
  clear h1 k2
  obtain ⟨e2, h2⟩ : ∃ e, y2 % 256 = e := ⟨_, rfl⟩
  obtain ⟨y3, k3⟩ : ∃ e, y2 / 256 = e := ⟨_, rfl⟩
  have z2 : y2 = e2 + 256 * y3 := by omega
  rw [h2, k3] at hs ⊢
  clear h2 k3
  obtain ⟨e3, h3⟩ : ∃ e, y3 % 256 = e := ⟨_, rfl⟩
  obtain ⟨y4, k4⟩ : ∃ e, y3 / 256 = e := ⟨_, rfl⟩
  have z3 : y3 = e3 + 256 * y4 := by omega
  rw [h3, k4] at hs ⊢
  clear h3 k4
  obtain ⟨e4, h4⟩ : ∃ e, y4 % 256 = e := ⟨_, rfl⟩
  obtain ⟨y5, k5⟩ : ∃ e, y4 / 256 = e := ⟨_, rfl⟩
  have z4 : y4 = e4 + 256 * y5 := by omega
  rw [h4, k5] at hs ⊢
  clear h4 k5
  obtain ⟨e5, h5⟩ : ∃ e, y5 % 256 = e := ⟨_, rfl⟩
  obtain ⟨y6, k6⟩ : ∃ e, y5 / 256 = e := ⟨_, rfl⟩
  have z5 : y5 = e5 + 256 * y6 := by omega
  rw [h5, k6] at hs ⊢
  clear h5 k6
  obtain ⟨e6, h6⟩ : ∃ e, y6 % 256 = e := ⟨_, rfl⟩
  obtain ⟨y7, k7⟩ : ∃ e, y6 / 256 = e := ⟨_, rfl⟩
  have z6 : y6 = e6 + 256 * y7 := by omega
  rw [h6, k7] at hs ⊢
  clear h6 k7
  have b7 : y7 < 256 := by
    subst z0 z1 z2 z3 z4 z5 z6
    omega
  rw [Nat.mod_eq_of_lt b7] at hs ⊢
  have da : y + y1 = (e0 + e1) + 256 * (e1 + e2) + 65536 * (y2 + y3) := by
    rw [z0, z1, z2]
    omega
  obtain ⟨a, ha⟩ : ∃ a, y + y1 = a := ⟨_, rfl⟩
  rw [ha] at da ⊢
  clear ha z0 hy
  obtain ⟨u, hu⟩ : ∃ u, y2 + y3 = u := ⟨_, rfl⟩
  rw [hu] at da
  have d2 : a / 65536 = u := by omega
  rw [d2]
  have db : a + u = (e0 + e1 + e2 + e3) + 256 * (e1 + e2 + e3 + e4) + 65536 * ((e2 + e3 + e4 + e5) + 256 * (e3 + e4 + e5 + e6)) + 4294967296 * (y4 + y5 + y6 + y7) := by
    rw [da, ← hu, z2, z3, z4, z5, z6]
    omega
  obtain ⟨b, hb⟩ : ∃ b, a + u = b := ⟨_, rfl⟩
  rw [hb] at db ⊢
  clear hb da hu d2 z1 z2 z3
  obtain ⟨t, ht⟩ : ∃ t, y4 + y5 + y6 + y7 = t := ⟨_, rfl⟩
  rw [ht] at db
  have d3 : b / 4294967296 = t := by omega
  rw [d3]
  have dt : t = (e4 + e5 + e6 + y7) + 256 * (y5 + y6 + y7) := by
    rw [← ht, z4, z5, z6]
    omega
  clear ht d3
  have c5 : y5 ≤ 64 + 256 * (64 + 256 * 64) := by omega
  have c6 : y6 ≤ 64 + 256 * 64 := by omega
  constructor
  · omega
  · omega
theorem c1 : M 4 1 32 = 6148914691236517205 := by kernel_rfl
theorem c2 : M 16 3 16 = 3689348814741910323 := by kernel_rfl
theorem c4 : M 256 15 8 = 1085102592571150095 := by kernel_rfl
theorem andC (a c : Nat) (A C : Int) (ha : a < 18446744073709551616) (hc : c < 18446744073709551616) (hA : A = (a : Int)) (hC : C = (c : Int)) : bits .and .u64 A C = ((a &&& c : Nat) : Int) := by
  subst hA hC
  exact bits_and_u64_nat a c ha hc
theorem and127 (x : Int) (h0 : 0 ≤ x) (h1 : x < 9223372036854775808) : bits .and .i64 x 127 = x % 128 :=
  bits_mask .i64 63 (by decide) (fun n h0 h1 => by rw [IntKind.wrap_i64]; omega) 7 (by omega) x h0 (by simpa using h1)
end Go.Proofs.Ytdajeabhhkgibaa.PC
namespace Go.Proofs.Ytdajeabhhkgibaa
open Go.RowKit
set_option maxRecDepth 100000 in
set_option maxHeartbeats 4000000 in
theorem ones_any (x : Nat) (w : World) (hx : x < 18446744073709551616) : Calls Try.prog 118 #[.int .u64 (x : Int)] w fun e w' => e = .returned (.int .i64 (PC.S 2 64 x : Int)) ∧ w' = w := by
  have s1 := PC.f1_S 32 x
  have s2 := PC.f2_S 16 (PC.f1 32 x)
  have s3 := PC.f3_S 8 (PC.f2 16 (PC.f1 32 x)) (PC.f2_D 16 _)
  have hS : PC.S 256 8 (PC.f3 8 (PC.f2 16 (PC.f1 32 x))) = PC.S 2 64 x := by rw [s3]; show PC.S 16 16 _ = _; rw [s2]; show PC.S 4 32 _ = _; rw [s1]
  have hle := PC.S2_le 64 x
  clear s1 s2 s3
  have l1 : x / 2 &&& 6148914691236517205 ≤ 6148914691236517205 := Nat.and_le_right
  have l2 : x &&& 6148914691236517205 ≤ 6148914691236517205 := Nat.and_le_right
  have g1 := PC.andC (x / 2) 6148914691236517205 ((x : Int) / 2) 6148914691236517205 (by omega) (by omega) (by omega) rfl
  have g2 := PC.andC x 6148914691236517205 (x : Int) 6148914691236517205 hx (by omega) rfl rfl
  have d1 : PC.f1 32 x = (x / 2 &&& 6148914691236517205) + (x &&& 6148914691236517205) := by unfold PC.f1; rw [PC.c1]
  rw [d1] at hS
  clear d1
  generalize (x / 2 &&& 6148914691236517205) = a1 at *
  generalize (x &&& 6148914691236517205) = a2 at *
  have l3 : (a1 + a2) / 4 &&& 3689348814741910323 ≤ 3689348814741910323 := Nat.and_le_right
  have l4 : (a1 + a2) &&& 3689348814741910323 ≤ 3689348814741910323 := Nat.and_le_right
  have g3 := PC.andC ((a1 + a2) / 4) 3689348814741910323 (((a1 : Int) + (a2 : Int)) / 4) 3689348814741910323 (by omega) (by omega) (by omega) rfl
  have g4 := PC.andC (a1 + a2) 3689348814741910323 ((a1 : Int) + (a2 : Int)) 3689348814741910323 (by omega) (by omega) (by omega) rfl
  have d2 : PC.f2 16 (a1 + a2) = ((a1 + a2) / 4 &&& 3689348814741910323) + ((a1 + a2) &&& 3689348814741910323) := by unfold PC.f2; rw [PC.c2]
  rw [d2] at hS
  clear d2
  generalize ((a1 + a2) / 4 &&& 3689348814741910323) = b1 at *
  generalize ((a1 + a2) &&& 3689348814741910323) = b2 at *
  have l5 : ((b1 + b2) / 16 + (b1 + b2)) &&& 1085102592571150095 ≤ 1085102592571150095 := Nat.and_le_right
  have g5 := PC.andC ((b1 + b2) / 16 + (b1 + b2)) 1085102592571150095 (((b1 : Int) + (b2 : Int)) / 16 + ((b1 : Int) + (b2 : Int))) 1085102592571150095 (by omega) (by omega) (by omega) rfl
  have d3 : PC.f3 8 (b1 + b2) = ((b1 + b2) / 16 + (b1 + b2)) &&& 1085102592571150095 := by unfold PC.f3; rw [PC.c4]
  rw [d3] at hS
  clear d3
  generalize (((b1 + b2) / 16 + (b1 + b2)) &&& 1085102592571150095) = y at *
  obtain ⟨hc1, hc2⟩ := PC.fold8 y (by omega) (by rw [hS]; exact hle)
  rw [hS] at hc2
  clear hS
  have g6 : bits .and .i64 ((y : Int) + (y : Int) / 256 + ((y : Int) + (y : Int) / 256) / 65536 + ((y : Int) + (y : Int) / 256 + ((y : Int) + (y : Int) / 256) / 65536) / 4294967296) 127 = (PC.S 2 64 x : Int) := by
    rw [PC.and127 _ (by omega) (by omega), ← hc2]
    omega
  generalize PC.S 2 64 x = R at *
  go_enter Try.func118, Try.ntmps118
  go_wp2
  go_ret
  exact ⟨rfl, rfl⟩
end Go.Proofs.Ytdajeabhhkgibaa
