import Derived.Test.YtgiblfhajiakgaaGreatDoorKWe
namespace Go.Proofs.YtgiblfhajiakgaaGreatDoor.K
open Go.RowKit
set_option linter.unusedVariables false
set_option linter.unusedSimpArgs false

/-! A nil Writer. -/
set_option maxRecDepth 100000 in
theorem nadd (a : Option Addr) (len cap : Nat) (w : World) :
    Calls Tryz.prog 55 #[.pointer none, .slice a len cap] w fun x w' => x = .returned (.tuple #[]) ∧ w' = w := by
  go_enter Tryz.func55, Tryz.ntmps55
  go_wp2
  exact bodyPost_ret (results_none Tryz.results55 _ _ _) rfl ⟨rfl, rfl⟩
set_option maxRecDepth 100000 in
theorem nbyte (v : Int) (w : World) :
    Calls Tryz.prog 13 #[.pointer none, .int .u8 v] w fun x w' => x = .returned (.tuple #[]) ∧ Below w.heap.size w w' := by
  have be : Below w.heap.size w (w.alloc (.cells #[.int .u8 v] 5)) := (Below.refl _ _).alloc (Nat.le_refl _) _
  go_enter Tryz.func13, Tryz.ntmps13
  go_wp2_with fail
  refine (nadd _ _ _ _).mono ?_
  rintro x w1 ⟨rfl, h1⟩
  rw [← h1] at be
  clear h1
  go_wp2
  go_end0
  exact ⟨rfl, be⟩
set_option maxRecDepth 100000 in
theorem nbool (b : Bool) (w : World) :
    Calls Tryz.prog 36 #[.pointer none, .bool b] w fun x w' => x = .returned (.tuple #[]) ∧ Below w.heap.size w w' := by
  have be : ∀ v, Below w.heap.size w (w.alloc (.cells #[.int .u8 v] 5)) := fun v => (Below.refl _ _).alloc (Nat.le_refl _) _
  cases b
  · go_enter Tryz.func36, Tryz.ntmps36
    go_wp2_with fail
    refine (nadd _ _ _ _).mono ?_
    rintro x w1 ⟨rfl, h1⟩
    have be := be 0
    rw [← h1] at be
    clear h1
    go_wp2
    go_end0
    exact ⟨rfl, be⟩
  · go_enter Tryz.func36, Tryz.ntmps36
    go_wp2_with fail
    refine (nadd _ _ _ _).mono ?_
    rintro x w1 ⟨rfl, h1⟩
    have be := be 1
    rw [← h1] at be
    clear h1
    go_wp2
    go_end0
    exact ⟨rfl, be⟩
set_option maxRecDepth 100000 in
theorem nfix (v : Int) (h0 : 0 ≤ v) (h1 : v < 4294967296) (w : World) :
    Calls Tryz.prog 37 #[.pointer none, .int .u32 v] w fun x w' => x = .returned (.tuple #[]) ∧ Below w.heap.size w w' := by
  have be : Hid (∀ c : Array Value, Below w.heap.size w (w.alloc (.cells c 5))) := fun c => (Below.refl _ _).alloc (Nat.le_refl _) _
  go_enter Tryz.func37, Tryz.ntmps37
  go_wp2_with fail
  refine (nadd _ _ _ _).mono ?_
  rintro x w1 ⟨rfl, h1⟩
  have be : Below w.heap.size w w1 := by rw [h1]; exact be.out _
  clear h1
  go_wp2
  go_end0
  exact ⟨rfl, be⟩
set_option maxRecDepth 100000 in
set_option maxHeartbeats 1000000 in
theorem nuint (v : Nat) (hv : v < 18446744073709551616) (w : World) :
    Calls Tryz.prog 26 #[.pointer none, .int .u64 (v : Int)] w fun x w' => x = .returned (.tuple #[]) ∧ Below w.heap.size w w' := by
  go_enter Tryz.func26, Tryz.ntmps26
  go_wp2_with fail
  go_loopw [1] (fun x wr => ∃ (n : Nat), x = .int .u64 (n : Int) ∧ n < 18446744073709551616 ∧ Hid (Below w.heap.size w wr)) (fun x _ => (intOf x).toNat)
  case atStart => exact ⟨v, rfl, hv, Hid.mk' (Below.refl _ _)⟩
  case round =>
    obtain ⟨n, rfl, hn, HW⟩ := hrel
    have be : Hid (∀ c : Array Value, Below w.heap.size w (wr.alloc (.cells c 5))) := fun c => HW.out.alloc HW.out.size _
    by_cases hlt : n < 128
    · have hlt' : (n : Int) < 128 := by omega
      go_wp2_with fail
      refine (nadd _ _ _ _).mono ?_
      rintro x w1 ⟨rfl, h1⟩
      have be : Below w.heap.size w w1 := by rw [h1]; exact be.out _
      clear h1
      go_wp2
      go_end0
      exact ⟨rfl, be⟩
    · have hlt' : ¬ (n : Int) < 128 := by omega
      go_wp2_with fail
      refine (nadd _ _ _ _).mono ?_
      rintro x w1 ⟨rfl, h1⟩
      have be : Below w.heap.size w w1 := by rw [h1]; exact be.out _
      clear h1
      go_wp2
      exact ⟨⟨n / 128, by first | rfl | (congr 1; omega), by omega, Hid.mk' be⟩, by simp [intOf]; omega⟩
set_option maxRecDepth 100000 in
set_option maxHeartbeats 1000000 in
theorem nint (n : Int) (h0 : -9223372036854775808 ≤ n) (h1 : n < 9223372036854775808) (w : World) :
    Calls Tryz.prog 27 #[.pointer none, .int .i64 n] w fun x w' => x = .returned (.tuple #[]) ∧ Below w.heap.size w w' := by
  have hz : zig n < 18446744073709551616 := by unfold zig; split <;> omega
  have H : Hid (∀ v : Int, v = (zig n : Int) → Calls Tryz.prog 26 #[.pointer none, .int .u64 v] w fun x w' => x = .returned (.tuple #[]) ∧ Below w.heap.size w w') := fun v hv => by rw [hv]; exact nuint (zig n) hz w
  by_cases hn : n < 0
  · go_enter Tryz.func27, Tryz.ntmps27
    go_wp2_with fail
    refine (H.out _ ?_).mono ?_
    · have hw : IntKind.u64.wrap (IntKind.u64.wrap n * 2) = ((18446744073709551615 - zig n : Nat) : Int) := by
        rw [IntKind.wrap_u64, IntKind.wrap_u64]
        unfold zig
        rw [if_pos hn]
        omega
      rw [hw, not64n _ (by omega)]
      omega
    rintro x w1 ⟨rfl, ho⟩
    go_wp2
    go_end0
    exact ⟨rfl, ho⟩
  · go_enter Tryz.func27, Tryz.ntmps27
    go_wp2_with fail
    refine (H.out _ ?_).mono ?_
    · unfold zig
      rw [if_neg (by omega)]
      omega
    rintro x w1 ⟨rfl, ho⟩
    go_wp2
    go_end0
    exact ⟨rfl, ho⟩
set_option maxRecDepth 100000 in
theorem nfail (c : Int) (w : World) :
    Calls Tryz.prog 43 #[.pointer none, .int .i64 c] w fun x w' => x = .returned (.tuple #[]) ∧ w' = w := by
  go_enter Tryz.func43, Tryz.ntmps43
  go_wp2
  go_end0
  exact ⟨rfl, rfl⟩
set_option maxRecDepth 100000 in
theorem nlen (w : World) :
    Calls Tryz.prog 8 #[.pointer none] w fun x w' => x = .returned (.int .i64 0) ∧ w' = w := by
  go_enter Tryz.func8, Tryz.ntmps8
  go_wp2
  go_ret
  exact ⟨rfl, rfl⟩
set_option maxRecDepth 100000 in
theorem ndone (w : World) :
    Calls Tryz.prog 11 #[.pointer none] w fun x w' => x = .returned (.tuple #[.slice none 0 0, .int .i64 1]) ∧ w' = w := by
  go_enter Tryz.func11, Tryz.ntmps11
  go_wp2
  go_ret2
  exact ⟨rfl, rfl⟩
set_option maxRecDepth 100000 in
set_option maxHeartbeats 1000000 in
theorem nfloat (f : Nat) (hf : f < 18446744073709551616) (w : World) :
    Calls Tryz.prog 29 #[.pointer none, .float .f64 f] w fun x w' => x = .returned (.tuple #[]) ∧ Below w.heap.size w w' := by
  have HF := Hid.mk' (fun (wx : World) => fin_any f wx hf)
  have HX := Hid.mk' (fun (v : Int) (h0 : 0 ≤ v) (h1 : v < 4294967296) (w : World) => nfix v h0 h1 w)
  by_cases h1 : finN f = true
  · rw [h1] at HF
    by_cases z : (FloatKind.f64.format.order f 0 == some .eq) = true
    · go_enter Tryz.func29, Tryz.ntmps29
      go_wp2_with fail
      refine (HF.out _).mono ?_
      rintro x w1 ⟨rfl, hw1⟩
      subst hw1
      go_wp2_with fail
      refine (HX.out _ (by decide) (by decide) _).mono ?_
      rintro x w2 ⟨rfl, a2⟩
      go_wp2_with fail
      refine (HX.out _ (by decide) (by decide) _).mono ?_
      rintro x w3 ⟨rfl, a3⟩
      have A3 := Hid.mk' (a2.trans (a3.mono a2.size))
      clear a2 a3
      go_wp2
      go_end0
      exact ⟨rfl, A3.out⟩
    · have z : (FloatKind.f64.format.order f 0 == some .eq) = false := by simpa using z
      go_enter Tryz.func29, Tryz.ntmps29
      go_wp2_with fail
      refine (HF.out _).mono ?_
      rintro x w1 ⟨rfl, hw1⟩
      subst hw1
      go_wp2_with fail
      refine (HX.out _ (by first | omega | (simp only [IntKind.wrap_u32]; omega)) (by first | omega | (simp only [IntKind.wrap_u32]; omega)) _).mono ?_
      rintro x w2 ⟨rfl, a2⟩
      go_wp2_with fail
      refine (HX.out _ (by first | omega | (simp only [IntKind.wrap_u32]; omega)) (by first | omega | (simp only [IntKind.wrap_u32]; omega)) _).mono ?_
      rintro x w3 ⟨rfl, a3⟩
      have A3 := Hid.mk' (a2.trans (a3.mono a2.size))
      clear a2 a3
      go_wp2
      go_end0
      exact ⟨rfl, A3.out⟩
  · have h1 : finN f = false := by simpa using h1
    rw [h1] at HF
    go_enter Tryz.func29, Tryz.ntmps29
    go_wp2_with fail
    refine (HF.out _).mono ?_
    rintro x w1 ⟨rfl, hw1⟩
    subst hw1
    go_wp2_with fail
    refine (nfail _ _).mono ?_
    rintro x w2 ⟨rfl, hw2⟩
    subst hw2
    go_wp2
    exact bodyPost_ret (results_none Tryz.results29 _ _ _) rfl ⟨rfl, Below.refl _ _⟩
set_option maxRecDepth 100000 in
theorem nraw (a : Option Addr) (len cap : Nat) (hl : len < 18446744073709551616) (w : World) :
    Calls Tryz.prog 38 #[.pointer none, .slice a len cap] w fun x w' => x = .returned (.tuple #[]) ∧ Below w.heap.size w w' := by
  have H := Hid.mk' (nuint len hl)
  have hl2 : (len : Int) < 18446744073709551616 := by omega
  go_enter Tryz.func38, Tryz.ntmps38
  go_wp2_with fail
  refine (H.out _).mono ?_
  rintro x w1 ⟨rfl, a1⟩
  have A1 := Hid.mk' a1
  clear a1
  go_wp2_with fail
  refine (nadd _ _ _ _).mono ?_
  rintro x w2 ⟨rfl, h2⟩
  subst h2
  go_wp2
  go_end0
  exact ⟨rfl, A1.out⟩
end Go.Proofs.YtgiblfhajiakgaaGreatDoor.K
