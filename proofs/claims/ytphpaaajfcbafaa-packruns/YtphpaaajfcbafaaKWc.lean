import Derived.Test.YtphpaaajfcbafaaKWp
namespace Go.Proofs.Ytphpaaajfcbafaa.K
open Go.RowKit
set_option linter.unusedVariables false
set_option linter.unusedSimpArgs false

variable {p : Nat} {g : Option Nat} {M : List UInt8} {e : Int}
set_option maxRecDepth 100000 in
set_option maxHeartbeats 1000000 in
theorem xuint_any (v : Nat) (hv : v < 18446744073709551616) (w : World) (hw : WS w 43 p g M e) (hsum : M.length + 64 ≤ 225000000000000) :
    Calls Try.prog 19 #[.pointer (some ⟨p, 0, none⟩), .int .u64 (v : Int)] w fun x w' => x = .returned (.tuple #[]) ∧ Wr w w' 43 p g (wA M e (vint v)) e := by
  have HV : Hid ((vint v).length ≤ 10) := vint_10 v hv
  have HS : Hid (M.length + 64 ≤ 225000000000000) := hsum
  clear hsum
  go_enter Try.func19, Try.ntmps19
  go_wp2_with fail
  go_loopw [1] (fun x wr => ∃ (n : Nat) (P : List UInt8), x = .int .u64 (n : Int) ∧ n < 18446744073709551616 ∧ Hid (P ++ vint n = vint v) ∧ Hid (Wr w wr 43 p g (wA M e P) e)) (fun x _ => (intOf x).toNat)
  case atStart => exact ⟨v, [], rfl, hv, rfl, by show Wr _ _ _ _ _ _ _; rw [wA_nil]; exact hw.wr⟩
  case round =>
    clear hw
    obtain ⟨n, P, rfl, hn, HP, HW⟩ := hrel
    obtain ⟨g1, ws, fr, nw⟩ := HW.out
    have hPl : P.length ≤ 10 := by
      have h1 := HV.out
      rw [← HP.out, List.length_append] at h1
      omega
    have hwl : (wA M e P).length + 1 ≤ 225000000000000 := by have := wA_len M e P; have := HS.out; omega
    by_cases hlt : n < 128
    · have hlt' : (n : Int) < 128 := by omega
      have H := Hid.mk' ((put_any (UInt8.ofNat n) (n : Int) (by rw [UInt8.toNat_ofNat']; omega) wr ws hwl).mono fun x w' h => And.intro h.1 (Wr.step fr nw h.2))
      rw [wA_wA, show P ++ [UInt8.ofNat n] = vint v by rw [← HP.out, vint_lt hlt]] at H
      clear ws fr nw HW HP hwl
      go_wp2_with fail
      refine H.out.mono ?_
      rintro x w1 ⟨rfl, ho⟩
      have HO := Hid.mk' ho
      clear ho
      go_wp2
      go_end0
      exact ⟨rfl, HO.out⟩
    · have hlt' : ¬ (n : Int) < 128 := by omega
      have H : Hid (∀ kv : Int, kv = ((UInt8.ofNat (n % 128 + 128)).toNat : Int) → Calls Try.prog 24 #[.pointer (some ⟨p, 0, none⟩), .int .u8 kv] wr fun x w' => x = .returned (.tuple #[]) ∧ Wr w w' 43 p g (wA M e (P ++ [UInt8.ofNat (n % 128 + 128)])) e) := fun kv hk => (put_any (UInt8.ofNat (n % 128 + 128)) kv hk wr ws hwl).mono fun x w' h => by
        rw [wA_wA] at h
        exact And.intro h.1 (Wr.step fr nw h.2)
      clear ws fr nw HW hwl
      have hP2 : Hid (P ++ [UInt8.ofNat (n % 128 + 128)] ++ vint (n / 128) = vint v) := by
        show _ = _
        rw [← HP.out, vint_ge hlt]
        simp
      go_wp2_with fail
      refine (H.out _ (by first | rfl | (rw [UInt8.toNat_ofNat']; omega))).mono ?_
      rintro x w1 ⟨rfl, ho⟩
      have HO := Hid.mk' ho
      clear ho
      go_wp2
      exact ⟨⟨n / 128, P ++ [UInt8.ofNat (n % 128 + 128)], by first | rfl | (congr 1; omega), by omega, hP2, HO⟩, by simp [intOf]; omega⟩
set_option maxRecDepth 100000 in
set_option maxHeartbeats 1000000 in
theorem xint_any (n : Int) (h0 : -9223372036854775808 ≤ n) (h1 : n < 9223372036854775808) (w : World) (hw : WS w 43 p g M e) (hsum : M.length + 64 ≤ 225000000000000) :
    Calls Try.prog 18 #[.pointer (some ⟨p, 0, none⟩), .int .i64 n] w fun x w' => x = .returned (.tuple #[]) ∧ Wr w w' 43 p g (wA M e (vint (zig n))) e := by
  have hz : zig n < 18446744073709551616 := by unfold zig; split <;> omega
  have H : Hid (∀ v : Int, v = (zig n : Int) → Calls Try.prog 19 #[.pointer (some ⟨p, 0, none⟩), .int .u64 v] w fun x w' => x = .returned (.tuple #[]) ∧ Wr w w' 43 p g (wA M e (vint (zig n))) e) := fun v hv => by rw [hv]; exact xuint_any (zig n) hz w hw hsum
  clear hw hsum
  by_cases hn : n < 0
  · have hn' : ¬ 0 ≤ n := by omega
    go_enter Try.func18, Try.ntmps18
    go_wp2_with fail
    refine (H.out _ ?_).mono ?_
    · unfold zig
      rw [if_pos (by omega)]
      first | omega | (rw [IntKind.wrap_u64]; omega) | (rw [IntKind.wrap_u64, IntKind.wrap_u64]; omega)
    rintro x w1 ⟨rfl, ho⟩
    have HO := Hid.mk' ho
    clear ho
    go_wp2
    go_end0
    exact ⟨rfl, HO.out⟩
  · have hn' : 0 ≤ n := by omega
    go_enter Try.func18, Try.ntmps18
    go_wp2_with fail
    refine (H.out _ ?_).mono ?_
    · unfold zig
      rw [if_neg (by omega)]
      first | omega | (rw [IntKind.wrap_u64]; omega)
    rintro x w1 ⟨rfl, ho⟩
    have HO := Hid.mk' ho
    clear ho
    go_wp2
    exact bodyPost_ret (results_none Try.results18 _ _ _) rfl ⟨rfl, HO.out⟩
end Go.Proofs.Ytphpaaajfcbafaa.K
