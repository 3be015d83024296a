import Derived.Test.YtpalbfkkegaliabDoorA
import Derived.Test.YtpalbfkkegaliabDoorLaws
namespace Go.Proofs.YtpalbfkkegaliabDoor
open Go.RowKit
set_option linter.unusedVariables false
set_option linter.unusedSimpArgs false

/-- How many digits stand ahead, of the first n. -/
def goodOf : Nat → List UInt8 → Nat
  | 0, _ => 0
  | _ + 1, [] => 0
  | n + 1, a :: r => if isDg (a.toNat : Int) then goodOf n r + 1 else 0
def good (l : List UInt8) : Nat := goodOf 64 l

theorem at8_zero (a : UInt8) (r : List UInt8) : at8 (a :: r) 0 = (a.toNat : Int) := rfl
theorem at8_succ (a : UInt8) (r : List UInt8) (k : Nat) : at8 (a :: r) (k + 1) = at8 r k := by simp [at8]

theorem goodOf_eq (n : Nat) (l : List UInt8) (k : Nat) (h1 : k ≤ n) (h2 : k ≤ l.length) (h3 : ∀ j, j < k → isDg (at8 l j) = true) (h4 : k = n ∨ k = l.length ∨ isDg (at8 l k) = false) : goodOf n l = k := by
  induction n generalizing l k with
  | zero => simp [goodOf]; omega
  | succ n ih =>
    cases l with
    | nil => simp at h2; simp [goodOf, h2]
    | cons a r =>
      cases k with
      | zero =>
        rcases h4 with h | h | h
        · omega
        · simp at h
        · rw [at8_zero] at h; simp [goodOf, h]
      | succ k =>
        have h0 := h3 0 (by omega)
        rw [at8_zero] at h0
        simp only [goodOf, h0, if_true]
        rw [ih r k (by omega) (by simpa using h2) (fun j hj => by have := h3 (j + 1) (by omega); rwa [at8_succ] at this)]
        rcases h4 with h | h | h
        · left; omega
        · right; left; simpa using h
        · right; right; rwa [at8_succ] at h

theorem at8_str (s : ByteArray) (k : Nat) (h : k < s.size) : ((s[k].toNat : Nat) : Int) = at8 s.data.toList k := by
  have h' : k < s.data.size := h
  have : s.data.toList.getD k 0 = s[k] := by
    rw [List.getD_eq_getElem?_getD, List.getElem?_eq_getElem (by simpa using h')]
    rfl
  unfold at8
  rw [this]

set_option maxHeartbeats 400000 in
theorem goodDigits_any (s : ByteArray) (w : World) (hs : s.size ≤ maxLen) :
    Calls Tryd.prog 73 #[.string s] w fun e w' => e = .returned (.int .i64 (good s.data.toList)) ∧ w' = w := by
  unfold maxLen at hs
  have hl : s.data.toList.length = s.size := Array.length_toList
  have HL : Hid (s.data.toList.length = s.size) := hl
  clear hl
  go_enter Tryd.func73, Tryd.ntmps73
  go_wp2
  go_loop [3] (fun n => ∃ k : Nat, k ≤ 64 ∧ k ≤ s.size ∧ n = .int .i64 k ∧ Hid (∀ j, j < k → isDg (at8 s.data.toList j) = true)) (fun n => 64 - (intOf n).toNat)
  case atStart => exact ⟨0, by omega, Nat.zero_le _, rfl, fun j hj => by omega⟩
  case round =>
    obtain ⟨k, hk, hk2, rfl, hall⟩ := hrel
    by_cases h1 : k < s.size
    · by_cases h2 : k < 64
      · have e8 := at8_str s k h1
        cases hd : isDg (at8 s.data.toList k)
        · go_wp2_with (go_at_call 90; refine (isDigit_any _ _).mono ?_; rintro e w' ⟨rfl, rfl⟩)
          go_ret
          exact ⟨ret_int (by rw [good, goodOf_eq 64 _ k hk (by rw [HL.out]; omega) hall.out (.inr (.inr hd))]), rfl⟩
        · go_wp2_with (go_at_call 90; refine (isDigit_any _ _).mono ?_; rintro e w' ⟨rfl, rfl⟩)
          go_round
          case rel =>
            refine ⟨k + 1, by omega, by omega, by go_num, fun j hj => ?_⟩
            by_cases e : j = k
            · rw [e]; exact hd
            · exact hall.out j (by omega)
          case measure => simp [intOf]; omega
      · go_wp2
        go_ret
        exact ⟨ret_int (by rw [good, goodOf_eq 64 _ k hk (by rw [HL.out]; omega) hall.out (.inl (by omega))]), rfl⟩
    · go_wp2
      go_ret
      exact ⟨ret_int (by rw [good, goodOf_eq 64 _ k hk (by rw [HL.out]; omega) hall.out (.inr (.inl (by rw [HL.out]; omega)))]), rfl⟩

end Go.Proofs.YtpalbfkkegaliabDoor
