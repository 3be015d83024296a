import Derived.Test.YtdajeabhhkgibaaKWp
namespace Go.Proofs.Ytdajeabhhkgibaa.K
open Go.RowKit
set_option linter.unusedVariables false
set_option linter.unusedSimpArgs false

variable {p : Nat} {g : Option Nat} {M : List UInt8} {e : Int}
set_option maxRecDepth 100000 in
set_option maxHeartbeats 1000000 in
theorem xbyte_any (k : UInt8) (kv : Int) (hk : kv = (k.toNat : Int)) (w : World) (hw : WS w 133 p g M e) (hsum : M.length + 1 ≤ 140737488355328) :
    Calls Try.prog 102 #[.pointer (some ⟨p, 0, none⟩), .int .u8 kv] w fun x w' => x = .returned (.tuple #[]) ∧ Wr w w' 133 p g (wA M e [k]) e := by
  subst hk
  have H := Hid.mk' (put_any k _ rfl w hw hsum)
  clear hw
  go_enter Try.func102, Try.ntmps102
  go_wp2_with fail
  refine H.out.mono ?_
  rintro x w1 ⟨rfl, ho⟩
  have HO := Hid.mk' ho
  clear ho
  go_wp2
  go_end0
  exact ⟨rfl, HO.out⟩
set_option maxRecDepth 100000 in
set_option maxHeartbeats 1000000 in
theorem xuint_any (v : Nat) (hv : v < 18446744073709551616) (w : World) (hw : WS w 133 p g M e) (hsum : M.length + 64 ≤ 140737488355328) :
    Calls Try.prog 101 #[.pointer (some ⟨p, 0, none⟩), .int .u64 (v : Int)] w fun x w' => x = .returned (.tuple #[]) ∧ Wr w w' 133 p g (wA M e (vint v)) e := by
  have HV : Hid ((vint v).length ≤ 10) := vint_10 v hv
  have HS : Hid (M.length + 64 ≤ 140737488355328) := hsum
  clear hsum
  go_enter Try.func101, Try.ntmps101
  go_wp2_with fail
  go_loopw [1] (fun x wr => ∃ (n : Nat) (P : List UInt8), x = .int .u64 (n : Int) ∧ n < 18446744073709551616 ∧ Hid (P ++ vint n = vint v) ∧ Hid (Wr w wr 133 p g (wA M e P) e)) (fun x _ => (intOf x).toNat)
  case atStart => exact ⟨v, [], rfl, hv, rfl, by show Wr _ _ _ _ _ _ _; rw [wA_nil]; exact hw.wr⟩
  case round =>
    clear hw
    obtain ⟨n, P, rfl, hn, HP, HW⟩ := hrel
    obtain ⟨g1, ws, fr, nw⟩ := HW.out
    have hPl : P.length ≤ 10 := by
      have h1 := HV.out
      rw [← HP.out, List.length_append] at h1
      omega
    have hwl : (wA M e P).length + 1 ≤ 140737488355328 := by have := wA_len M e P; have := HS.out; omega
    by_cases hlt : n < 128
    · have hlt' : (n : Int) < 128 := by omega
      have H := Hid.mk' ((put_any (UInt8.ofNat n) (n : Int) (by rw [UInt8.toNat_ofNat']; omega) wr ws hwl).mono fun x w' h => And.intro h.1 (Wr.step fr nw h.2))
      rw [wA_wA, show P ++ [UInt8.ofNat n] = vint v by rw [← HP.out, vint_lt hlt]] at H
      clear ws fr nw HW HP hwl
      go_wp2_with fail
      refine H.out.mono ?_
      rintro x w1 ⟨rfl, ho⟩
      have HO := Hid.mk' ho
      clear ho
      go_wp2
      go_end0
      exact ⟨rfl, HO.out⟩
    · have hlt' : ¬ (n : Int) < 128 := by omega
      have H : Hid (∀ kv : Int, kv = ((UInt8.ofNat (n % 128 + 128)).toNat : Int) → Calls Try.prog 121 #[.pointer (some ⟨p, 0, none⟩), .int .u8 kv] wr fun x w' => x = .returned (.tuple #[]) ∧ Wr w w' 133 p g (wA M e (P ++ [UInt8.ofNat (n % 128 + 128)])) e) := fun kv hk => (put_any (UInt8.ofNat (n % 128 + 128)) kv hk wr ws hwl).mono fun x w' h => by
        rw [wA_wA] at h
        exact And.intro h.1 (Wr.step fr nw h.2)
      clear ws fr nw HW hwl
      have hP2 : Hid (P ++ [UInt8.ofNat (n % 128 + 128)] ++ vint (n / 128) = vint v) := by
        show _ = _
        rw [← HP.out, vint_ge hlt]
        simp
      go_wp2_with fail
      refine (H.out _ (by first | rfl | (rw [UInt8.toNat_ofNat']; omega))).mono ?_
      rintro x w1 ⟨rfl, ho⟩
      have HO := Hid.mk' ho
      clear ho
      go_wp2
      exact ⟨⟨n / 128, P ++ [UInt8.ofNat (n % 128 + 128)], by first | rfl | (congr 1; omega), by omega, hP2, HO⟩, by simp [intOf]; omega⟩
end Go.Proofs.Ytdajeabhhkgibaa.K
