import Derived.Test.YtpmdlhlojifoeaaDoorRows
import Derived.Test.YtpmdlhlojifoeaaDoorBase
import Derived.Test.YtpmdlhlojifoeaaDoorLaws
import Derived.WalkLawsBesides
import Derived.WalkSpells
namespace Go.Proofs.YtpmdlhlojifoeaaDoor
open Go.RowKit
set_option linter.unusedVariables false
set_option linter.unusedSimpArgs false
attribute [local go_sem] bits_xor bits_and bits_or U_shr4 and15 xor_max

/-- The table lies where it lies. -/
def NibsAt (w : World) : Prop := ∀ j, j < 16 → w.cell? ⟨0, j, none⟩ = some (.int .u32 (U (nibs.getD j 0)))

theorem nib_cell {w : World} (hn : NibsAt w) (x : UInt32) : w.cell? ⟨0, (U x % 16).toNat, none⟩ = some (.int .u32 (U (nib x))) := by
  rw [U_and15, hn _ (by omega)]
  rfl

set_option maxHeartbeats 800000 in
theorem crc_any (a : Option Addr) (l : List UInt8) (cap : Nat) (w : World) (hb : Byt w a l) (hl : l.length ≤ 4611686018427387904) (hn : NibsAt w) :
    Calls Tryd.prog 11 #[.slice a l.length cap] w fun e w' => e = .returned (.int .u32 (U (crc l))) ∧ w' = w := by
  rcases hb with rfl | ⟨b, off, rfl, hc⟩
  · have e0 : bits .xor .u32 IntKind.u32.max 4294967295 = U (crc []) := by decide
    go_enter Tryd.func11, Tryd.ntmps11
    go_wp2
    refine wp_loop_rounds 1 ?_
    rw [rounds_succ]
    go_wp2
    go_ret
    exact ⟨rfl, rfl⟩
  · go_enter Tryd.func11, Tryd.ntmps11
    go_wp2
    go_loop [3, 5, 8] (fun r _ i => ∃ k : Nat, k ≤ l.length ∧ i = .int .i64 k ∧ r = .int .u32 (U (crcReg (l.take k)))) (fun _ _ i => l.length - (intOf i).toNat)
    case atStart => exact ⟨0, Nat.zero_le _, rfl, rfl⟩
    case round =>
      obtain ⟨k, hk, rfl, rfl⟩ := hrel
      by_cases h1 : k < l.length
      · have c1 := hc k h1
        have t1 := crcReg_take l k h1
        obtain ⟨r, hr⟩ : ∃ r, r = crcReg (l.take k) := ⟨_, rfl⟩
        obtain ⟨v, hv⟩ : ∃ v, v = UInt32.ofNat (l.getD k 0).toNat := ⟨_, rfl⟩
        have hat : at8 l k % 4294967296 = U v := by
          rw [hv, ← U_byte]; unfold at8; have := (l.getD k 0).toNat_lt; omega
        have T1 : Hid (crcReg (l.take (k + 1)) = half (half (r ^^^ v))) := by rw [hr, hv]; exact t1
        rw [← hr]
        clear t1 hr hv
        have n1 := nib_cell hn (r ^^^ v)
        have n2 := nib_cell hn ((r ^^^ v) >>> 4 ^^^ nib (r ^^^ v))
        go_wp2
        go_round
        case rel => exact ⟨k + 1, by omega, by go_num, by rw [T1.out]; rfl⟩
        case measure => simp [intOf]; omega
      · have hk2 : k = l.length := by omega
        subst hk2
        rw [List.take_length]
        obtain ⟨r, hr⟩ : ∃ r, r = crcReg l := ⟨_, rfl⟩
        have T1 : Hid (crc l = r ^^^ 0xffffffff) := by rw [hr]; rfl
        rw [← hr]
        clear hr
        go_wp2
        go_ret
        exact ⟨ret_int (by rw [T1.out]), rfl⟩
end Go.Proofs.YtpmdlhlojifoeaaDoor
