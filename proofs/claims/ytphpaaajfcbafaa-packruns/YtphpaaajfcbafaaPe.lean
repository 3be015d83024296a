import Derived.Test.YtphpaaajfcbafaaPd
namespace Go.Proofs.Ytphpaaajfcbafaa.K
open Go.RowKit
set_option linter.unusedVariables false
set_option linter.unusedSimpArgs false

set_option maxRecDepth 100000 in
set_option maxHeartbeats 2000000 in
/-- The document's alike. -/
theorem ralike_any (a : Option Addr) (L : List Nat) (n cap i : Nat) (w : World) (hn : L.length = n) (h : Nums w a L) (hi : i < L.length) (hb : L.length ≤ 17592186044416) :
    Calls Try.prog 17 #[.slice a n cap, .int .i64 (i : Int)] w fun e w' => e = .returned (.int .i64 (al (L.drop i) : Int)) ∧ ∃ m, w' = w.drewN m := by
  subst hn
  obtain ⟨b, off, rfl, hlt, hc⟩ := h.open (by omega)
  have c0 := hc i hi
  have HC := Hid.mk' hc
  clear h hc
  generalize hy : L.getD i 0 = y at c0
  have HY := Hid.mk' hy
  clear hy
  go_enter Try.func17, Try.ntmps17
  go_wp2
  go_loopw [5] (fun x wr => ∃ k : Nat, x = .int .i64 (k : Int) ∧ i + k ≤ L.length ∧ Hid (0 < k → L.getD (i + k - 1) 0 = y) ∧ Hid (0 < k → al (L.drop i) = k - 1 + al (L.drop (i + k - 1))) ∧ ∃ m, wr = w.drewN m) (fun x _ => L.length - (intOf x).toNat)
  case atStart => exact ⟨0, rfl, by omega, fun h => absurd h (by omega), fun h => absurd h (by omega), 0, rfl⟩
  case round =>
    obtain ⟨k, rfl, h2, HK, HA, m, rfl⟩ := hrel
    by_cases hlt : i + k < L.length
    · have ck := HC.out (i + k) hlt
      have hlt' : (i : Int) + (k : Int) < (L.length : Int) := by omega
      generalize hx : L.getD (i + k) 0 = x at ck
      by_cases he : x = y
      · have HN : Hid (0 < k + 1 → al (L.drop i) = k + 1 - 1 + al (L.drop (i + (k + 1) - 1))) := fun _ => by
          rw [show i + (k + 1) - 1 = i + k by omega, show k + 1 - 1 = k by omega]
          by_cases hk : 0 < k
          · have e1 : L.getD (i + k - 1) 0 = L.getD (i + k - 1 + 1) 0 := by
              rw [show i + k - 1 + 1 = i + k by omega, hx, he]; exact HK.out hk
            have e2 := al_same L (i + k - 1) (by omega) e1
            rw [show i + k - 1 + 1 = i + k by omega] at e2
            rw [HA.out hk, e2]
            omega
          · obtain rfl : k = 0 := by omega
            simp
        have HX : Hid (0 < k + 1 → L.getD (i + (k + 1) - 1) 0 = y) := fun _ => by rw [show i + (k + 1) - 1 = i + k by omega, hx, he]
        clear HA HK hx
        subst he
        have eik : (i : Int) + (k : Int) = ((i + k : Nat) : Int) := by omega
        generalize hik : i + k = s at *
        clear hik
        go_wp2
        go_quiet (fail)
        go_wp2
        go_roundw
        case rel => exact ⟨k + 1, by go_num, by omega, HX, HN, _, rfl⟩
        case measure => simp [intOf]; omega
      · have hk : 0 < k := by
          rcases Nat.eq_zero_or_pos k with e | e
          · exfalso; apply he; rw [← hx, ← HY.out, e, Nat.add_zero]
          · exact e
        have HN : Hid (al (L.drop i) = k) := by
          show _ = _
          have e1 : L.getD (i + k - 1) 0 ≠ L.getD (i + k - 1 + 1) 0 := by
            rw [show i + k - 1 + 1 = i + k by omega, hx, HK.out hk]; exact fun e => he e.symm
          have e2 := al_other L (i + k - 1) (by omega) e1
          rw [HA.out hk, e2]
          omega
        have he1 : ((x : Int) == (y : Int)) = false := by simp; omega
        clear HA HK hx he hk
        have eik : (i : Int) + (k : Int) = ((i + k : Nat) : Int) := by omega
        generalize hik : i + k = s at *
        clear hik
        go_wp2
        go_quiet (fail)
        go_wp2
        go_ret
        exact ⟨by rw [HN.out]; rfl, _, by first | rfl | exact World.drewN_drewN _ _ _⟩
    · have hk : i + k = L.length := by omega
      have HN : Hid (al (L.drop i) = k) := by
        show _ = _
        rw [HA.out (by omega), al_last L (i + k - 1) (by omega)]
        omega
      have hlt' : ¬ ((i + k : Nat) : Int) < (L.length : Int) := by omega
      have eik : IntKind.i64.wrap ((i : Int) + (k : Int)) = ((i + k : Nat) : Int) := by rw [IntKind.wrap_i64]; omega
      clear HA HK hk
      generalize hik : i + k = s at *
      clear hik
      go_wp2
      go_quiet (fail)
      go_wp2
      go_ret
      exact ⟨by rw [HN.out]; rfl, _, by first | rfl | exact World.drewN_drewN _ _ _⟩
theorem WG.xuint {w W : World} {M : List UInt8} (h : WG w W 43 M) (v : Nat) (hv : v < 18446744073709551616) (hM : M.length + 64 ≤ 225000000000000) :
    Calls Try.prog 19 #[.pointer (some ⟨w.heap.size, 0, none⟩), .int .u64 (v : Int)] W fun x w' => x = .returned (.tuple #[]) ∧ WG w w' 43 (M ++ vint v) := by
  obtain ⟨g', ws, fr, nw⟩ := h
  refine (xuint_any v hv W ws hM).mono ?_
  rintro e W' ⟨rfl, hr⟩
  rw [wA_0] at hr
  exact ⟨rfl, Wr.step fr nw hr⟩
theorem WG.xint {w W : World} {M : List UInt8} (h : WG w W 43 M) (v : Int) (h0 : -9223372036854775808 ≤ v) (h1 : v < 9223372036854775808) (hM : M.length + 64 ≤ 225000000000000) :
    Calls Try.prog 18 #[.pointer (some ⟨w.heap.size, 0, none⟩), .int .i64 v] W fun x w' => x = .returned (.tuple #[]) ∧ WG w w' 43 (M ++ vint (zig v)) := by
  obtain ⟨g', ws, fr, nw⟩ := h
  refine (xint_any v h0 h1 W ws hM).mono ?_
  rintro e W' ⟨rfl, hr⟩
  rw [wA_0] at hr
  exact ⟨rfl, Wr.step fr nw hr⟩
theorem WG.xdone {w W : World} {M : List UInt8} (h : WG w W 43 M) (hM : M.length ≤ 225000000000000) :
    Calls Try.prog 20 #[.pointer (some ⟨w.heap.size, 0, none⟩)] W fun x w' => ∃ v, x = .returned (.tuple #[v, .int .i64 0]) ∧ OwnB w' w.heap.size v M ∧ Below w.heap.size w w' := by
  have hb := h.below
  obtain ⟨g', ws, fr, nw⟩ := h
  refine (xdone_own W ws hM).mono ?_
  rintro e W' ⟨v, rfl, ho, h2⟩
  rw [show dM M 0 = M by simp [dM]] at ho
  refine ⟨v, rfl, ⟨ho.1, ?_⟩, hb.trans (h2.mono hb.size)⟩
  rcases ho.2 with hn | ⟨gg, cap, cur, e, hg, r⟩
  · exact .inl hn
  · exact .inr ⟨gg, cap, cur, e, Nat.le_trans hb.size hg, r⟩
end Go.Proofs.Ytphpaaajfcbafaa.K
