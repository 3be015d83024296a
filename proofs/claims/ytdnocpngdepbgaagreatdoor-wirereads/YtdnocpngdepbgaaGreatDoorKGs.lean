import Derived.Test.YtdnocpngdepbgaaGreatDoorKPr
namespace Go.Proofs.YtdnocpngdepbgaaGreatDoor.K
open Go.RowKit
set_option linter.unusedVariables false
set_option linter.unusedSimpArgs false

/-- A byte of a text, as a number; 0 behind its end. -/
def by8 (s : ByteArray) (k : Nat) : Nat := (s.data.toList.getD k 0).toNat
theorem by8_lt (s : ByteArray) (k : Nat) : by8 s k < 256 := by unfold by8; exact (s.data.toList.getD k 0).toNat_lt
theorem index_str (s : ByteArray) (k : Nat) (kk : Int) (hk : kk = (k : Int)) (w : World) (h : k < s.size) : (Instr.index 9 (.string s) (.int .i64 kk)).run Tryz.prog w = .ok (.int .u8 (by8 s k : Int)) w := by
  subst hk
  have hd : s.data.toList[k]? = some (s[k]'h) := by simp [h]; rfl
  have e : by8 s k = (s[k]'h).toNat := by
    unfold by8
    rw [List.getD_eq_getElem?_getD, hd]
    rfl
  rw [e]
  simp [Instr.index, asIntOf, run_underlying Tryz.underlying9, h]
/-- A byte stands there, from lo to hi. -/
def folB (s : ByteArray) (j lo hi : Nat) : Bool := decide (j < s.size) && (decide (lo ≤ by8 s j) && decide (by8 s j ≤ hi))
set_option maxRecDepth 100000 in
set_option maxHeartbeats 1000000 in
theorem follows_any (s : ByteArray) (ii : Int) (j lo hi : Nat) (hii : ii = (j : Int)) (w : World) :
    Calls Tryz.prog 150 #[.string s, .int .i64 ii, .int .u8 (lo : Int), .int .u8 (hi : Int)] w fun e w' => e = .returned (.bool (folB s j lo hi)) ∧ w' = w := by
  by_cases h1 : j < s.size
  · have h1' : ii < (s.size : Int) := by omega
    have i1 := fun wx => index_str s j ii hii wx h1
    have e : folB s j lo hi = (decide (lo ≤ by8 s j) && decide (by8 s j ≤ hi)) := by unfold folB; rw [decide_eq_true h1]; rfl
    rw [e]
    generalize by8 s j = b at *
    clear hii e
    by_cases h2 : lo ≤ b
    · have h2' : (lo : Int) ≤ (b : Int) := by omega
      rw [decide_eq_true h2]
      by_cases h3 : b ≤ hi
      · have h3' : (b : Int) ≤ (hi : Int) := by omega
        rw [decide_eq_true h3]
        go_enter Tryz.func150, Tryz.ntmps150
        go_wp2
        go_ret
        exact ⟨rfl, rfl⟩
      · have h3' : ¬ (b : Int) ≤ (hi : Int) := by omega
        rw [decide_eq_false h3]
        go_enter Tryz.func150, Tryz.ntmps150
        go_wp2
        go_ret
        exact ⟨rfl, rfl⟩
    · have h2' : ¬ (lo : Int) ≤ (b : Int) := by omega
      rw [decide_eq_false h2]
      go_enter Tryz.func150, Tryz.ntmps150
      go_wp2
      go_ret
      exact ⟨rfl, rfl⟩
  · have h1' : ¬ ii < (s.size : Int) := by omega
    have e : folB s j lo hi = false := by unfold folB; rw [decide_eq_false h1]; rfl
    rw [e]
    go_enter Tryz.func150, Tryz.ntmps150
    go_wp2
    go_ret
    exact ⟨rfl, rfl⟩
/-- The bytes 1 to n - 1 behind a place go on, the first of them from lo to hi. -/
def TailB (s : ByteArray) (i n lo hi : Nat) : Bool := folB s (i + 1) lo hi && ((decide (n ≤ 2) || folB s (i + 2) 128 191) && (decide (n ≤ 3) || folB s (i + 3) 128 191))
end Go.Proofs.YtdnocpngdepbgaaGreatDoor.K
