import Derived.Test.YtefoipjbbfcjhaaDoorQRi
import Derived.Lib.ValidLaws
namespace Go.Proofs.YtefoipjbbfcjhaaDoor.Q
open Go.RowKit
set_option linter.unusedVariables false
set_option linter.unusedSimpArgs false

/-- A byte of a text, as a number; 0 behind its end. -/
def by8 (s : ByteArray) (k : Nat) : Nat := (s.data.toList.getD k 0).toNat
theorem by8_lt (s : ByteArray) (k : Nat) : by8 s k < 256 := by unfold by8; exact (s.data.toList.getD k 0).toNat_lt
theorem index_str (s : ByteArray) (k : Nat) (w : World) (h : k < s.size) : (Instr.index 9 (.string s) (.int .i64 (k : Int))).run Tryd.prog w = .ok (.int .u8 (by8 s k : Int)) w := by
  have hd : s.data.toList[k]? = some (s[k]'h) := by simp [h]; rfl
  have e : by8 s k = (s[k]'h).toNat := by
    unfold by8
    rw [List.getD_eq_getElem?_getD, hd]
    rfl
  rw [e]
  simp [Instr.index, asIntOf, run_underlying Tryd.underlying9, h]
/-- The bytes 1 to n - 1 go on, the first of them from lo to hi. -/
def TailP (s : ByteArray) (n lo hi : Nat) : Prop := n ≤ s.size ∧ lo ≤ by8 s 1 ∧ by8 s 1 ≤ hi ∧ ∀ i, 2 ≤ i → i < n → 128 ≤ by8 s i ∧ by8 s i ≤ 191
def TailOut (s : ByteArray) (n lo hi : Nat) (w : World) (e : Ending) (w' : World) : Prop := ∃ b, e = .returned (.bool b) ∧ (b = true ↔ TailP s n lo hi) ∧ w' = w
theorem tail_no {s : ByteArray} {n lo hi : Nat} {w : World} (h : ¬ TailP s n lo hi) : TailOut s n lo hi w (.returned (.bool false)) w := ⟨false, rfl, ⟨fun e => (by cases e), fun e => absurd e h⟩, rfl⟩
theorem tail_yes {s : ByteArray} {n lo hi : Nat} {w : World} (h : TailP s n lo hi) : TailOut s n lo hi w (.returned (.bool true)) w := ⟨true, rfl, ⟨fun _ => h, fun _ => rfl⟩, rfl⟩
set_option maxRecDepth 100000 in
set_option maxHeartbeats 1000000 in
theorem tail_any (s : ByteArray) (n lo hi : Nat) (w : World) (hn : 2 ≤ n) (hn2 : n ≤ 4) (hlo : lo < 256) (hhi : hi < 256) :
    Calls Tryd.prog 26 #[.string s, .int .i64 (n : Int), .int .u8 (lo : Int), .int .u8 (hi : Int)] w (TailOut s n lo hi w) := by
  by_cases h1 : s.size < n
  · have h1' : (s.size : Int) < (n : Int) := by omega
    go_enter Tryd.func26, Tryd.ntmps26
    go_wp2
    go_ret
    exact tail_no (fun h => (by have := h.1; omega))
  have h1' : ¬ (s.size : Int) < (n : Int) := by omega
  have i1 := index_str s 1 w (by omega)
  simp only [Int.cast_ofNat_Int] at i1
  by_cases h2 : by8 s 1 < lo
  · have h2' : (by8 s 1 : Int) < (lo : Int) := by omega
    go_enter Tryd.func26, Tryd.ntmps26
    go_wp2
    go_ret
    exact tail_no (fun h => (by have := h.2.1; omega))
  have h2' : ¬ (by8 s 1 : Int) < (lo : Int) := by omega
  by_cases h3 : hi < by8 s 1
  · have h3' : (hi : Int) < (by8 s 1 : Int) := by omega
    go_enter Tryd.func26, Tryd.ntmps26
    go_wp2
    go_ret
    exact tail_no (fun h => (by have := h.2.2.1; omega))
  have h3' : ¬ (hi : Int) < (by8 s 1 : Int) := by omega
  go_enter Tryd.func26, Tryd.ntmps26
  go_wp2
  go_loopw [9] (fun i wr => ∃ k : Nat, 2 ≤ k ∧ k ≤ n ∧ i = .int .i64 k ∧ wr = w ∧ ∀ j, 2 ≤ j → j < k → 128 ≤ by8 s j ∧ by8 s j ≤ 191) (fun i _ => n - (intOf i).toNat)
  case atStart => exact ⟨2, by omega, by omega, rfl, rfl, fun j _ _ => by omega⟩
  case round =>
    obtain ⟨k, hk2, hkn, rfl, rfl, hj⟩ := hrel
    by_cases h4 : k < n
    · have h4' : (k : Int) < (n : Int) := by omega
      have ik := index_str s k wr (by omega)
      by_cases h5 : by8 s k < 128
      · have h5' : (by8 s k : Int) < 128 := by omega
        go_wp2
        go_ret
        exact tail_no (fun h => (by have := h.2.2.2 k hk2 h4; omega))
      have h5' : ¬ (by8 s k : Int) < 128 := by omega
      by_cases h6 : 191 < by8 s k
      · have h6' : (191 : Int) < (by8 s k : Int) := by omega
        go_wp2
        go_ret
        exact tail_no (fun h => (by have := h.2.2.2 k hk2 h4; omega))
      have h6' : ¬ (191 : Int) < (by8 s k : Int) := by omega
      go_wp2
      go_roundw
      case rel =>
        refine ⟨k + 1, by omega, by omega, by go_num, by trivial, fun j hj1 hj2 => ?_⟩
        rcases Nat.lt_or_ge j k with h | h
        · exact hj j hj1 h
        · have : j = k := by omega
          subst this
          omega
      case measure => simp [intOf]; omega
    · have h4' : ¬ (k : Int) < (n : Int) := by omega
      obtain rfl : k = n := by omega
      go_wp2
      go_ret
      exact tail_yes ⟨by omega, by omega, by omega, hj⟩
end Go.Proofs.YtefoipjbbfcjhaaDoor.Q
