import Derived.Test.YtdajeabhhkgibaaKWa
import Derived.Laws.BitsAllLaws
namespace Go.Proofs.Ytdajeabhhkgibaa.K
open Go.RowKit
set_option linter.unusedVariables false
set_option linter.unusedSimpArgs false

def vint (v : Nat) : List UInt8 := if h : v < 128 then [UInt8.ofNat v] else UInt8.ofNat (v % 128 + 128) :: vint (v / 128)
termination_by v
decreasing_by omega
theorem vint_lt {v : Nat} (h : v < 128) : vint v = [UInt8.ofNat v] := by rw [vint]; simp [h]
theorem vint_ge {v : Nat} (h : ¬ v < 128) : vint v = UInt8.ofNat (v % 128 + 128) :: vint (v / 128) := by rw [vint]; simp [h]
theorem vint_len : ∀ (f v : Nat), v < 128 ^ (f + 1) → (vint v).length ≤ f + 1
  | 0, v, h => by rw [vint_lt (by simpa using h)]; simp
  | f + 1, v, h => by
    by_cases hv : v < 128
    · rw [vint_lt hv]; simp
    · rw [vint_ge hv]
      have : v / 128 < 128 ^ (f + 1) := by rw [Nat.pow_succ] at h; omega
      have := vint_len f (v / 128) this
      simp
      omega
theorem vint_10 (v : Nat) (h : v < 18446744073709551616) : (vint v).length ≤ 10 := vint_len 9 v (by
  have : (18446744073709551616 : Nat) < 128 ^ 10 := by decide
  omega)
theorem or128N : ∀ x, x < 256 → bits .or .u8 ((x : Nat) : Int) 128 = ((x % 128 + 128 : Nat) : Int) := by decide +kernel
variable {p : Nat} {g : Option Nat} {M : List UInt8} {e : Int}
theorem add_one (k : UInt8) (kv : Int) (hk : kv = (k.toNat : Int)) (w : World) (hw : WS w 119 p g M e) (hsum : M.length + 1 ≤ 140737488355328) :
    Calls Try.prog 119 #[.pointer (some ⟨p, 0, none⟩), .slice (some ⟨w.heap.size, 0, none⟩) 1 1] (w.alloc (.cells #[.int .u8 kv] 5)) fun x w' => x = .returned (.tuple #[]) ∧ Wr w w' 119 p g (wA M e [k]) e := by
  subst hk
  have be : Below w.heap.size w (w.alloc (.cells (bs [k]) 5)) := (Below.refl _ _).alloc (Nat.le_refl _) _
  exact (add_any [k] (some ⟨w.heap.size, 0, none⟩) 1 1 (w.alloc (.cells (bs [k]) 5)) (hw.below be) rfl (byt_lit w [k] 5) (by simpa using hsum)).mono fun x w' h => ⟨h.1, Wr.pre be h.2⟩
set_option maxRecDepth 100000 in
set_option maxHeartbeats 1000000 in
theorem wbyte_any (k : UInt8) (kv : Int) (hk : kv = (k.toNat : Int)) (w : World) (hw : WS w 119 p g M e) (hsum : M.length + 1 ≤ 140737488355328) :
    Calls Try.prog 74 #[.pointer (some ⟨p, 0, none⟩), .int .u8 kv] w fun x w' => x = .returned (.tuple #[]) ∧ Wr w w' 119 p g (wA M e [k]) e := by
  subst hk
  have H := Hid.mk' (add_one k _ rfl w hw hsum)
  clear hw
  go_enter Try.func74, Try.ntmps74
  go_wp2_with fail
  refine H.out.mono ?_
  rintro x w1 ⟨rfl, ho⟩
  have HO := Hid.mk' ho
  clear ho
  go_wp2
  go_end0
  exact ⟨rfl, HO.out⟩
set_option maxRecDepth 100000 in
set_option maxHeartbeats 1000000 in
theorem wuint_any (v : Nat) (hv : v < 18446744073709551616) (w : World) (hw : WS w 119 p g M e) (hsum : M.length + 64 ≤ 140737488355328) :
    Calls Try.prog 73 #[.pointer (some ⟨p, 0, none⟩), .int .u64 (v : Int)] w fun x w' => x = .returned (.tuple #[]) ∧ Wr w w' 119 p g (wA M e (vint v)) e := by
  have HV : Hid ((vint v).length ≤ 10) := vint_10 v hv
  have HS : Hid (M.length + 64 ≤ 140737488355328) := hsum
  clear hsum
  go_enter Try.func73, Try.ntmps73
  go_wp2_with fail
  go_loopw [1] (fun x wr => ∃ (n : Nat) (P : List UInt8), x = .int .u64 (n : Int) ∧ n < 18446744073709551616 ∧ Hid (P ++ vint n = vint v) ∧ Hid (Wr w wr 119 p g (wA M e P) e)) (fun x _ => (intOf x).toNat)
  case atStart => exact ⟨v, [], rfl, hv, rfl, by show Wr _ _ _ _ _ _ _; rw [wA_nil]; exact hw.wr⟩
  case round =>
    clear hw
    obtain ⟨n, P, rfl, hn, HP, HW⟩ := hrel
    obtain ⟨g1, ws, fr, nw⟩ := HW.out
    have hPl : P.length ≤ 10 := by
      have h1 := HV.out
      rw [← HP.out, List.length_append] at h1
      omega
    have hwl : (wA M e P).length + 1 ≤ 140737488355328 := by have := wA_len M e P; have := HS.out; omega
    by_cases hlt : n < 128
    · have hlt' : (n : Int) < 128 := by omega
      have H := Hid.mk' ((add_one (UInt8.ofNat n) (n : Int) (by rw [UInt8.toNat_ofNat']; omega) wr ws hwl).mono fun x w' h => And.intro h.1 (Wr.step fr nw h.2))
      rw [wA_wA, show P ++ [UInt8.ofNat n] = vint v by rw [← HP.out, vint_lt hlt]] at H
      clear ws fr nw HW HP hwl
      go_wp2_with fail
      refine H.out.mono ?_
      rintro x w1 ⟨rfl, ho⟩
      have HO := Hid.mk' ho
      clear ho
      go_wp2
      go_end0
      exact ⟨rfl, HO.out⟩
    · have hlt' : ¬ (n : Int) < 128 := by omega
      have hbt : bits .or .u8 ((n : Int) % 256) 128 = ((UInt8.ofNat (n % 128 + 128)).toNat : Int) := by
        have := or128N (n % 256) (by omega)
        rw [show (((n % 256 : Nat)) : Int) = (n : Int) % 256 by omega] at this
        rw [this, UInt8.toNat_ofNat']
        omega
      have H : Hid (∀ kv : Int, kv = ((UInt8.ofNat (n % 128 + 128)).toNat : Int) → Calls Try.prog 119 #[.pointer (some ⟨p, 0, none⟩), .slice (some ⟨wr.heap.size, 0, none⟩) 1 1] (wr.alloc (.cells #[.int .u8 kv] 5)) fun x w' => x = .returned (.tuple #[]) ∧ Wr w w' 119 p g (wA M e (P ++ [UInt8.ofNat (n % 128 + 128)])) e) := fun kv hk => (add_one (UInt8.ofNat (n % 128 + 128)) kv hk wr ws hwl).mono fun x w' h => by
        rw [wA_wA] at h
        exact And.intro h.1 (Wr.step fr nw h.2)
      clear ws fr nw HW hwl
      have hP2 : Hid (P ++ [UInt8.ofNat (n % 128 + 128)] ++ vint (n / 128) = vint v) := by
        show _ = _
        rw [← HP.out, vint_ge hlt]
        simp
      go_wp2_with fail
      refine (H.out _ (by first | rfl | (rw [UInt8.toNat_ofNat']; omega))).mono ?_
      rintro x w1 ⟨rfl, ho⟩
      have HO := Hid.mk' ho
      clear ho hbt
      go_wp2
      exact ⟨⟨n / 128, P ++ [UInt8.ofNat (n % 128 + 128)], by first | rfl | (congr 1; omega), by omega, hP2, HO⟩, by simp [intOf]; omega⟩

def b4 (n : Nat) : List UInt8 := [UInt8.ofNat (n / 16777216), UInt8.ofNat (n / 65536), UInt8.ofNat (n / 256), UInt8.ofNat n]
theorem b4_cells (n : Nat) (hn : n < 4294967296) : (bs (b4 n)) = #[.int .u8 ((n : Int) / 16777216), .int .u8 ((n : Int) / 65536 % 256), .int .u8 ((n : Int) / 256 % 256), .int .u8 ((n : Int) % 256)] := by
  unfold bs b4
  simp [UInt8.toNat_ofNat', Int.natCast_emod, Int.natCast_ediv]
  omega
/-- 2n, or -2n - 1 of a number below 0. -/
def zig (n : Int) : Nat := if n < 0 then (-2 * n - 1).toNat else (2 * n).toNat
theorem not64n (x : Nat) (h : x < 18446744073709551616) : bits .xor .u64 IntKind.u64.max (x : Int) = ((18446744073709551615 - x : Nat) : Int) := by
  show IntKind.u64.wrap ((BitVec.ofInt 64 IntKind.u64.max ^^^ BitVec.ofInt 64 (x : Int)).toNat : Int) = _
  rw [show BitVec.ofInt 64 IntKind.u64.max = BitVec.allOnes 64 by decide, BitVec.allOnes_xor, BitVec.toNat_not, BitVec.toNat_ofInt, IntKind.wrap_u64]
  omega
end Go.Proofs.Ytdajeabhhkgibaa.K
