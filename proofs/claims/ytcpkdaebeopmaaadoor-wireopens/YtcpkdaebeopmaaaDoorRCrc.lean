import Derived.Test.YtcpkdaebeopmaaaDoorRCrcM
namespace Go.Proofs.YtcpkdaebeopmaaaDoor
open Go.RowKit
set_option linter.unusedVariables false
set_option linter.unusedSimpArgs false
attribute [local go_sem] bits_xor bits_and bits_or xor_max

theorem U_shr1 (r : UInt32) : (U r : Int) / (2 : Int) = U (r >>> 1) := by
  unfold U
  rw [UInt32.toNat_shiftRight]
  simp [Nat.shiftRight_eq_div_pow]
theorem and1 (x : UInt32) : bits .and .u32 (U x) 1 = U (x &&& 1) := bits_and x 1
theorem xorP (x : UInt32) : bits .xor .u32 (U x) 3988292384 = U (x ^^^ 0xedb88320) := bits_xor x 0xedb88320
theorem shr_at (l : List UInt8) (k j : Nat) (h : j < 8) : at8 l k / 2 ^ j % 4294967296 = U (UInt32.ofNat (l.getD k 0).toNat >>> UInt32.ofNat j) := by
  unfold at8 U
  have hv := (l.getD k 0).toNat_lt
  rw [UInt32.toNat_shiftRight, UInt32.toNat_ofNat', UInt32.toNat_ofNat', Nat.mod_eq_of_lt (show (l.getD k 0).toNat < 2 ^ 32 by omega), Nat.shiftRight_eq_div_pow, show j % 2 ^ 32 % 32 = j by omega]
  generalize (l.getD k 0).toNat = v at *
  have e : ((v / 2 ^ j : Nat) : Int) = (v : Int) / 2 ^ j := by push_cast; rfl
  rw [← e]
  have : v / 2 ^ j ≤ v := Nat.div_le_self _ _
  generalize v / 2 ^ j = z at *
  omega
attribute [local go_sem] U_shr1 and1 xorP

set_option maxHeartbeats 2000000 in
theorem rcrc_any (a : Option Addr) (l : List UInt8) (cap : Nat) (w : World) (hb : Byt w a l) (hl : l.length ≤ 4611686018427387904) :
    Calls Tryd.prog 34 #[.slice a l.length cap] w fun e w' => e = .returned (.int .u32 (U (crc l))) ∧ w' = w := by
  go_enter Tryd.func34, Tryd.ntmps34
  go_wp2
  go_loop [3, 4, 5, 6] (fun r i _ _ => ∃ k : Nat, k ≤ l.length ∧ i = .int .i64 k ∧ r = .int .u32 (U (crcReg (l.take k)))) (fun _ i _ _ => l.length - (intOf i).toNat)
  case atStart => exact ⟨0, Nat.zero_le _, rfl, rfl⟩
  case round =>
    obtain ⟨k, hk, rfl, rfl⟩ := hrel
    by_cases h1 : k < l.length
    · rcases hb with rfl | ⟨b, off, rfl, hc⟩
      · simp at h1
      have c1 := hc k h1
      have t1 := crcReg_take l k h1
      generalize crcReg (l.take k) = r at *
      go_wp2
      go_loop [3, 5, 6] (fun q i _ => ∃ j : Nat, j ≤ 8 ∧ i = .int .i64 j ∧ q = .int .u32 (U (bitN (UInt32.ofNat (l.getD k 0).toNat) r j))) (fun _ i _ => 8 - (intOf i).toNat)
      case atStart => exact ⟨0, Nat.zero_le _, rfl, rfl⟩
      case round =>
        obtain ⟨j, hj, rfl, rfl⟩ := hrel
        by_cases h2 : j < 8
        · have hx : at8 l k / 2 ^ j % 4294967296 = U (UInt32.ofNat (l.getD k 0).toNat >>> UInt32.ofNat j) := shr_at l k j h2
          have ES : Hid (bitN (UInt32.ofNat (l.getD k 0).toNat) r (j + 1) = bitS (bitN (UInt32.ofNat (l.getD k 0).toNat) r j) (low (UInt32.ofNat (l.getD k 0).toNat) j ^^^ (bitN (UInt32.ofNat (l.getD k 0).toNat) r j &&& 1))) := rfl
          unfold low at ES
          generalize bitN (UInt32.ofNat (l.getD k 0).toNat) r j = q at *
          generalize UInt32.ofNat (l.getD k 0).toNat >>> UInt32.ofNat j = y at *
          go_wp2
          all_goals
            rename_i hcond
            refine ⟨⟨j + 1, by omega, by go_num, ?_⟩, by simp [intOf]; omega⟩
            rw [ES.out, bitS]
          · rw [if_pos (U_inj ((eq_of_beq hcond).trans (show (1 : Int) = U 1 by decide)))]
          · rw [if_neg (fun e => by rw [e] at hcond; revert hcond; decide)]
        · have hj2 : j = 8 := by omega
          subst hj2
          rw [byte_bits, ← t1]
          clear t1
          go_wp2
          go_round
          case rel => exact ⟨k + 1, by omega, by go_num, rfl⟩
          case measure => simp [intOf]; omega
    · have hk2 : k = l.length := by omega
      subst hk2
      rw [List.take_length]
      obtain ⟨r, hr⟩ : ∃ r, r = crcReg l := ⟨_, rfl⟩
      have T1 : Hid (crc l = r ^^^ 0xffffffff) := by rw [hr]; rfl
      rw [← hr]
      clear hr
      go_wp2
      go_ret
      exact ⟨ret_int (by rw [T1.out]), rfl⟩
end Go.Proofs.YtcpkdaebeopmaaaDoor
