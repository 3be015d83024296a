import Derived.Test.YthffcdahjcpdfaaGreatDoorRows
import Derived.WalkKit
import Derived.WalkSpells
import Derived.WalkLawsBesides
import Derived.Deep.QuietTactic
import Derived.BigQuiet
import Derived.Below
import Derived.Laws.Externs
import Derived.Lib.ValidLaws
namespace Go.Proofs.YthffcdahjcpdfaaGreatDoor.K
open Go.RowKit
set_option linter.unusedVariables false
set_option linter.unusedSimpArgs false

theorem below_drewN {B : Nat} {a w : World} (h : Below B a w) : ∀ q, Below B a (w.drewN q)
  | 0 => h
  | q + 1 => (below_drewN h q).drew
theorem bel_box (w : World) (c : Array Value) (t : TypeId) : Below w.heap.size w (w.alloc (.cells c t)) := (Below.refl _ _).alloc (Nat.le_refl _) _

end Go.Proofs.YthffcdahjcpdfaaGreatDoor.K

namespace Go.Proofs.YthffcdahjcpdfaaGreatDoor.K
open Go.RowKit
set_option linter.unusedVariables false
set_option linter.unusedSimpArgs false
namespace V

/-- A byte of a text, as a number; 0 behind its end. -/
def by8 (s : ByteArray) (k : Nat) : Nat := (s.data.toList.getD k 0).toNat
theorem by8_lt (s : ByteArray) (k : Nat) : by8 s k < 256 := by unfold by8; exact (s.data.toList.getD k 0).toNat_lt
theorem index_str (s : ByteArray) (k : Nat) (w : World) (h : k < s.size) : (Instr.index 9 (.string s) (.int .i64 (k : Int))).run Tryz.prog w = .ok (.int .u8 (by8 s k : Int)) w := by
  have hd : s.data.toList[k]? = some (s[k]'h) := by simp [h]; rfl
  have e : by8 s k = (s[k]'h).toNat := by
    unfold by8
    rw [List.getD_eq_getElem?_getD, hd]
    rfl
  rw [e]
  simp [Instr.index, asIntOf, run_underlying Tryz.underlying9, h]
/-- The bytes 1 to n - 1 go on, the first of them from lo to hi. -/
def TailP (s : ByteArray) (n lo hi : Nat) : Prop := n ≤ s.size ∧ lo ≤ by8 s 1 ∧ by8 s 1 ≤ hi ∧ ∀ i, 2 ≤ i → i < n → 128 ≤ by8 s i ∧ by8 s i ≤ 191
def TailOut (s : ByteArray) (n lo hi : Nat) (w : World) (e : Ending) (w' : World) : Prop := ∃ b, e = .returned (.bool b) ∧ (b = true ↔ TailP s n lo hi) ∧ w' = w
theorem tail_no {s : ByteArray} {n lo hi : Nat} {w : World} (h : ¬ TailP s n lo hi) : TailOut s n lo hi w (.returned (.bool false)) w := ⟨false, rfl, ⟨fun e => (by cases e), fun e => absurd e h⟩, rfl⟩
theorem tail_yes {s : ByteArray} {n lo hi : Nat} {w : World} (h : TailP s n lo hi) : TailOut s n lo hi w (.returned (.bool true)) w := ⟨true, rfl, ⟨fun _ => h, fun _ => rfl⟩, rfl⟩
end V
end Go.Proofs.YthffcdahjcpdfaaGreatDoor.K

namespace Go.Proofs.YthffcdahjcpdfaaGreatDoor.K
open Go.RowKit
set_option linter.unusedVariables false
set_option linter.unusedSimpArgs false
namespace V

/-- How many bytes the character at the front has, of a text that is not empty; 0: none stands there. -/
def wideN (s : ByteArray) : Nat :=
  if by8 s 0 < 128 then 1 else (Lib.checkN s.size (by8 s 1) (by8 s 2) (by8 s 3) (Lib.firstT (by8 s 0) % 8) (Lib.accLo (Lib.firstT (by8 s 0) / 16)) (Lib.accHi (Lib.firstT (by8 s 0) / 16))).getD 0
theorem tail_2 (s : ByteArray) (lo hi : Nat) : (TailP s 2 lo hi → Lib.checkN s.size (by8 s 1) (by8 s 2) (by8 s 3) 2 lo hi = some 2) ∧ (¬ TailP s 2 lo hi → Lib.checkN s.size (by8 s 1) (by8 s 2) (by8 s 3) 2 lo hi = none) := by
  unfold TailP Lib.checkN
  constructor
  · rintro ⟨h1, h2, h3, h4⟩
    rw [if_pos rfl, if_neg (by omega)]
  · intro h
    rw [if_pos rfl, if_pos]
    apply Classical.byContradiction
    intro hc
    exact h ⟨by omega, by omega, by omega, fun i _ _ => by omega⟩
theorem tail_3 (s : ByteArray) (lo hi : Nat) : (TailP s 3 lo hi → Lib.checkN s.size (by8 s 1) (by8 s 2) (by8 s 3) 3 lo hi = some 3) ∧ (¬ TailP s 3 lo hi → Lib.checkN s.size (by8 s 1) (by8 s 2) (by8 s 3) 3 lo hi = none) := by
  unfold TailP Lib.checkN
  constructor
  · rintro ⟨h1, h2, h3, h4⟩
    have := h4 2 (by omega) (by omega)
    rw [if_neg (by omega), if_pos rfl, if_neg (by omega)]
  · intro h
    rw [if_neg (by omega), if_pos rfl, if_pos]
    apply Classical.byContradiction
    intro hc
    refine h ⟨by omega, by omega, by omega, fun i h1 h2 => ?_⟩
    obtain rfl : i = 2 := by omega
    omega
theorem tail_4 (s : ByteArray) (lo hi : Nat) : (TailP s 4 lo hi → Lib.checkN s.size (by8 s 1) (by8 s 2) (by8 s 3) 4 lo hi = some 4) ∧ (¬ TailP s 4 lo hi → Lib.checkN s.size (by8 s 1) (by8 s 2) (by8 s 3) 4 lo hi = none) := by
  unfold TailP Lib.checkN
  constructor
  · rintro ⟨h1, h2, h3, h4⟩
    have := h4 2 (by omega) (by omega)
    have := h4 3 (by omega) (by omega)
    rw [if_neg (by omega), if_neg (by omega), if_pos rfl, if_neg (by omega)]
  · intro h
    rw [if_neg (by omega), if_neg (by omega), if_pos rfl, if_pos]
    apply Classical.byContradiction
    intro hc
    refine h ⟨by omega, by omega, by omega, fun i h1 h2 => ?_⟩
    rcases (show i = 2 ∨ i = 3 by omega) with rfl | rfl <;> omega
theorem not_empty (s : ByteArray) (h : 0 < s.size) : s.toList.isEmpty = false := by
  rw [ByteArray.toList_eq]
  cases hq : s.data.toList with
  | nil =>
    have : s.data.toList.length = s.size := by simp
    rw [hq] at this
    simp at this
    omega
  | cons => rfl

end V
end Go.Proofs.YthffcdahjcpdfaaGreatDoor.K

