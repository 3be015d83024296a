import Derived.Test.YtpalbfkkegaliaaF
import Derived.Deep.QuietTactic
import Derived.BigQuiet
namespace Go.Proofs.Ytpalbfkkegaliaa
open Go.RowKit
set_option linter.unusedVariables false
set_option linter.unusedSimpArgs false

theorem index_digI (d : Int) (w : World) (h0 : 0 ≤ d) (h1 : d < 16) :
    (Instr.index 9 (.string { data := #[48, 49, 50, 51, 52, 53, 54, 55, 56, 57, 97, 98, 99, 100, 101, 102] }) (.int .i64 d)).run Try.prog w = .ok (.int .u8 ((hx d).toNat : Int)) w := by
  rw [run_index_string _ _ _ _ _ Try.underlying9]
  have : d = 0 ∨ d = 1 ∨ d = 2 ∨ d = 3 ∨ d = 4 ∨ d = 5 ∨ d = 6 ∨ d = 7 ∨ d = 8 ∨ d = 9 ∨ d = 10 ∨ d = 11 ∨ d = 12 ∨ d = 13 ∨ d = 14 ∨ d = 15 := by omega
  rcases this with h | h | h | h | h | h | h | h | h | h | h | h | h | h | h | h <;> subst h <;> rfl
/-- A digit's number; -1: it is none. -/
def dgNo (c : Int) : Int := if isDg c = true then dgVal c else -1
theorem dgNo_hx (k : Nat) (hk : k < 16) (c : Int) (h : ((hx (k : Int)).toNat : Int) = c) : dgNo c = (k : Int) := by
  obtain ⟨h1, h2⟩ := hx_all (k : Int) (by omega) (by omega)
  rw [h] at h1 h2
  unfold dgNo
  rw [if_pos h1, h2]
theorem dgNo_none (c : Int) (h0 : 0 ≤ c) (h1 : c ≤ 255) (h : ∀ j : Nat, j < 16 → ((hx (j : Int)).toNat : Int) ≠ c) : dgNo c = -1 := by
  unfold dgNo
  rw [if_neg]
  intro hd
  have hc : ((UInt8.ofNat c.toNat).toNat : Int) = c := by rw [UInt8.toNat_ofNat']; omega
  have hb := hx_back (UInt8.ofNat c.toNat) (by rw [hc]; exact hd)
  rw [hc] at hb
  have hv := dgVal_digit hd
  have h2 := h (dgVal c).toNat (by omega)
  rw [show (((dgVal c).toNat : Nat) : Int) = dgVal c by omega, hb, hc] at h2
  exact h2 rfl
set_option maxRecDepth 100000 in
set_option maxHeartbeats 1000000 in
theorem digit_any (c : Int) (w : World) (h0 : 0 ≤ c) (h1 : c ≤ 255) :
    Calls Try.prog 15 #[.int .u8 c] w fun e w' => e = .returned (.int .i64 (dgNo c)) ∧ w' = w := by
  go_enter Try.func15, Try.ntmps15
  go_wp2
  go_loopw [3] (fun i wr => ∃ k : Nat, k ≤ 16 ∧ i = .int .i64 k ∧ Hid (∀ j : Nat, j < k → ((hx (j : Int)).toNat : Int) ≠ c) ∧ wr = w) (fun i _ => 16 - (intOf i).toNat)
  case atStart => exact ⟨0, by omega, rfl, (fun j hj => by omega : ∀ j : Nat, j < 0 → ((hx (j : Int)).toNat : Int) ≠ c), rfl⟩
  case round =>
    obtain ⟨k, hk, rfl, hno, rfl⟩ := hrel
    by_cases hlt : k < 16
    · have hlt' : (k : Int) < 16 := by omega
      have hix := fun wx => index_digI (k : Int) wx (by omega) (by omega)
      by_cases he : ((hx (k : Int)).toNat : Int) = c
      · have HE : Hid (dgNo c = (k : Int)) := dgNo_hx k hlt c he
        go_wp2
        go_ret
        exact ⟨ret_int HE.out.symm, rfl⟩
      · have heb : (((hx (k : Int)).toNat : Int) == c) = false := by simpa using he
        go_wp2
        go_roundw
        case rel =>
          refine ⟨k + 1, by omega, by go_num, ?_, by first | rfl | trivial⟩
          show ∀ j : Nat, j < k + 1 → ((hx (j : Int)).toNat : Int) ≠ c
          intro j hj
          by_cases e : j = k
          · subst e; exact he
          · exact hno.out j (by omega)
        case measure => simp [intOf]; omega
    · have hk2 : k = 16 := by omega
      subst hk2
      have HE : Hid (dgNo c = -1) := dgNo_none c h0 h1 hno.out
      go_wp2
      go_ret
      exact ⟨ret_int HE.out.symm, rfl⟩
end Go.Proofs.Ytpalbfkkegaliaa
