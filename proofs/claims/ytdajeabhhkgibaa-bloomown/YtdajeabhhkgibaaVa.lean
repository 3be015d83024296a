import Derived.Test.YtdajeabhhkgibaaHh
import Derived.Laws.Bits64b
import Derived.Below
import Derived.Deep.OwnRows
import Derived.Laws.OwnMore
namespace Go.Proofs.Ytdajeabhhkgibaa
open Go.RowKit
set_option linter.unusedVariables false
set_option linter.unusedSimpArgs false

theorem _root_.Go.RowKit.Hid.mk' {p : Prop} (h : p) : Hid p := h
/-- What some bytes say, the highest first. -/
def numB (h : List UInt8) (o : Nat) : Nat → Nat
  | 0 => 0
  | k + 1 => numB h o k * 256 + (h.getD (o + k) 0).toNat
theorem numB_lt (h : List UInt8) (o k : Nat) : numB h o k < 256 ^ k := by
  induction k with
  | zero => simp [numB]
  | succ k ih =>
    have := (h.getD (o + k) 0).toNat_lt
    rw [numB, Nat.pow_succ]
    omega
theorem or_low (n x : Nat) (hx : x < 256) : (n * 256) ||| x = n * 256 + x := by
  have e : n * 256 = n <<< 8 := by rw [Nat.shiftLeft_eq]
  rw [e, Nat.shiftLeft_add_eq_or_of_lt (by omega)]
theorem shl8 (n x : Nat) (hn : n < 72057594037927936) (hx : x < 256) : bits .or .u64 ((n : Int) * 256) (x : Int) = ((n * 256 + x : Nat) : Int) := by
  have e1 : (n : Int) * 256 = ((n * 256 : Nat) : Int) := by omega
  rw [e1, bits_or_u64_nat _ _ (by omega) (by omega), or_low n x hx]
set_option maxRecDepth 100000 in
theorem number_any (b o o2 c : Nat) (h : List UInt8) (w : World) (hr : ∀ k, k < 8 → w.cell? ⟨b, o + k, none⟩ = some (.int .u8 ((h.getD (o2 + k) 0).toNat : Int))) :
    Calls Try.prog 99 #[.slice (some ⟨b, o, none⟩) 8 c] w fun e w' => e = .returned (.int .u64 (numB h o2 8 : Int)) ∧ w' = w := by
  have HR := Hid.mk' hr
  have HL := Hid.mk' (numB_lt h o2)
  clear hr
  go_enter Try.func99, Try.ntmps99
  go_wp2
  go_loopw [3, 8] (fun n i wr => ∃ k : Nat, k ≤ 8 ∧ i = .int .i64 (k : Int) ∧ n = .int .u64 (numB h o2 k : Int) ∧ wr = w) (fun _ i _ => 8 - (intOf i).toNat)
  case atStart => exact ⟨0, by omega, rfl, rfl, rfl⟩
  case round =>
    obtain ⟨k, hk, rfl, rfl, rfl⟩ := hrel
    by_cases hk8 : k < 8
    · have hk8' : (k : Int) < 8 := by omega
      have hc := HR.out k hk8
      have hb := (h.getD (o2 + k) 0).toNat_lt
      have hn : numB h o2 k < 72057594037927936 := Nat.lt_of_lt_of_le (HL.out k) (Nat.le_trans (Nat.pow_le_pow_right (by omega) (show k ≤ 7 by omega)) (by decide))
      have e1 := Hid.mk' (shl8 (numB h o2 k) (h.getD (o2 + k) 0).toNat hn hb)
      have hs : Hid (numB h o2 (k + 1) = numB h o2 k * 256 + (h.getD (o2 + k) 0).toNat) := rfl
      have e2 : Hid (bits .or .u64 ((numB h o2 k : Int) * 256) ((h.getD (o2 + k) 0).toNat : Int) = (numB h o2 (k + 1) : Int)) := by show _ = _; rw [e1.out, hs.out]
      clear e1 hs
      generalize hN : numB h o2 k = n at *
      generalize (h.getD (o2 + k) 0).toNat = x at *
      clear hN
      go_wp2
      exact ⟨⟨k + 1, by omega, by go_num, by rw [e2.out], trivial⟩, by simp [intOf]; omega⟩
    · obtain rfl : k = 8 := by omega
      go_wp2
      go_ret
      exact ⟨rfl, rfl⟩
end Go.Proofs.Ytdajeabhhkgibaa
