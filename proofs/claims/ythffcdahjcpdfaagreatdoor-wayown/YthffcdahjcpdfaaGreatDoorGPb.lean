import Derived.Test.YthffcdahjcpdfaaGreatDoorGZc
import Derived.Test.YthffcdahjcpdfaaGreatDoorGQBase
import Derived.Test.YthffcdahjcpdfaaGreatDoorGYf
import Derived.Lib.ValidLaws
namespace Go.Proofs.YthffcdahjcpdfaaGreatDoor
open Go.RowKit
set_option linter.unusedVariables false
set_option linter.unusedSimpArgs false

theorem numP_le (s : ByteArray) (k0 : Nat) : ∀ (f k n : Nat), k ≤ (numP s k0 f k n).2.1 ∧ (numP s k0 f k n).2.1 ≤ k + f ∧ (n ≤ 2147483647 → (numP s k0 f k n).1 ≤ 2147483647) ∧ ((numP s k0 f k n).2.2 = true → k0 ≤ k → k0 < (numP s k0 f k n).2.1)
  | 0, k, n => by
    unfold numP
    split <;> simp <;> omega
  | f + 1, k, n => by
    rw [numP]
    split
    · split
      · simp
      · next h1 h2 =>
        have ih := numP_le s k0 f (k + 1) (n * 10 + (K.V.by8 s k - 48))
        have h3 : n * 10 + (K.V.by8 s k - 48) ≤ 2147483647 := by omega
        refine ⟨by omega, by omega, fun _ => ih.2.2.1 h3, fun a b => ih.2.2.2 a (by omega)⟩
    · split <;> simp <;> omega
/-- A number in brackets, behind the first of them. -/
def ixP (s : ByteArray) (k0 : Nat) : Nat × Nat × Bool :=
  if (numP s k0 (s.size - k0) k0 0).2.2 = false then (0, (numP s k0 (s.size - k0) k0 0).2.1, false)
  else if (numP s k0 (s.size - k0) k0 0).2.1 = s.size ∨ K.V.by8 s (numP s k0 (s.size - k0) k0 0).2.1 ≠ 93 then (0, (numP s k0 (s.size - k0) k0 0).2.1, false)
  else ((numP s k0 (s.size - k0) k0 0).1, (numP s k0 (s.size - k0) k0 0).2.1 + 1, true)
set_option maxRecDepth 100000 in
set_option maxHeartbeats 1000000 in
theorem rindex_any (s : ByteArray) (k0 : Nat) (w : World) (hk0 : k0 ≤ s.size) (hs : s.size ≤ 5000) (a0 a1 a2 : Addr) (hE : Snt w a0 a1 a2) :
    Calls Tryz.prog 38 #[.string s, .int .i64 (k0 : Int)] w fun e w' => e = .returned (.tuple #[.int .i64 ((ixP s k0).1 : Int), .int .i64 ((ixP s k0).2.1 : Int), erV a2 (ixP s k0).2.2]) ∧ Below w.heap.size w w' := by
  have H := Hid.mk' (rnum_any s k0 w hk0 hs a0 a1 a2 hE)
  obtain ⟨_, hle, hn, _⟩ := numP_le s k0 (s.size - k0) k0 0
  have hn := hn (by omega)
  have HI : Hid (ixP s k0 = if (numP s k0 (s.size - k0) k0 0).2.2 = false then (0, (numP s k0 (s.size - k0) k0 0).2.1, false)
    else if (numP s k0 (s.size - k0) k0 0).2.1 = s.size ∨ K.V.by8 s (numP s k0 (s.size - k0) k0 0).2.1 ≠ 93 then (0, (numP s k0 (s.size - k0) k0 0).2.1, false)
    else ((numP s k0 (s.size - k0) k0 0).1, (numP s k0 (s.size - k0) k0 0).2.1 + 1, true)) := rfl
  generalize ixP s k0 = R at *
  generalize numP s k0 (s.size - k0) k0 0 = N at *
  obtain ⟨n, k, ok⟩ := N
  simp only [] at H hle hn HI
  have hks : k ≤ s.size := by omega
  have HX : Hid (k < s.size → ∀ wx, (Instr.index 9 (.string s) (.int .i64 (k : Int))).run Tryz.prog wx = .ok (.int .u8 (K.V.by8 s k : Int)) wx) := fun h wx => K.V.index_str s k wx h
  have HG : Hid (∀ wx, Below w.heap.size w wx → wx.cell? ⟨1, 0, none⟩ = some (.iface 189 (.pointer (some a2)))) := fun wx h => (hE.below h).g2
  clear hE hle
  go_enter Tryz.func38, Tryz.ntmps38
  go_wp2_with fail
  refine H.out.mono ?_
  rintro e w1 ⟨rfl, b1⟩
  have hg := HG.out w1 b1
  have BW := Hid.mk' b1
  clear H HG b1
  cases ok with
  | false =>
    have HRR : Hid (R = (0, k, false)) := by show _ = _; rw [HI.out, if_pos rfl]
    clear HI HX
    unfold erV
    simp only [Bool.false_eq_true, if_false]
    go_wp2
    go_ret3
    exact ⟨by rw [HRR.out]; rfl, BW.out⟩
  | true =>
    unfold erV
    simp only [if_true]
    by_cases hks2 : k = s.size
    · have hks' : (k : Int) = (s.size : Int) := by omega
      have HRR : Hid (R = (0, k, false)) := by show _ = _; rw [HI.out, if_neg (by decide), if_pos (.inl hks2)]
      subst hks2
      clear HI HX
      go_wp2
      go_quiet (fail)
      go_wp2
      go_ret3
      exact ⟨by rw [HRR.out]; rfl, below_drewN BW.out _⟩
    · have hks' : ¬ (k : Int) = (s.size : Int) := by omega
      have ix := HX.out (by omega)
      by_cases h93 : K.V.by8 s k = 93
      · have HRR : Hid (R = (n, k + 1, true)) := by show _ = _; rw [HI.out, if_neg (by decide), if_neg (by omega)]
        rw [h93] at ix
        clear HI HX h93
        go_wp2
        go_ret3
        exact ⟨by rw [HRR.out]; rfl, BW.out⟩
      · have HRR : Hid (R = (0, k, false)) := by show _ = _; rw [HI.out, if_neg (by decide), if_pos (.inr h93)]
        have h93' : ¬ (K.V.by8 s k : Int) = 93 := by omega
        clear HI HX h93
        generalize K.V.by8 s k = c at *
        have h93b : ((c : Int) != 93) = true := by simp; omega
        go_wp2
        go_quiet (fail)
        go_wp2
        go_ret3
        exact ⟨by rw [HRR.out]; rfl, below_drewN BW.out _⟩
end Go.Proofs.YthffcdahjcpdfaaGreatDoor

namespace Go.Proofs.YthffcdahjcpdfaaGreatDoor.Q
open Go.RowKit
set_option linter.unusedVariables false
set_option linter.unusedSimpArgs false

/-- What stands behind a backslash for a character; 0: none. -/
def signN (r : Int) : Int := if r = 34 ∨ r = 92 then r else if r = 10 then 110 else if r = 13 then 114 else if r = 9 then 116 else 0
def hidB (r : Int) : Bool := decide (r < 32) || decide (r = 127)
set_option maxRecDepth 100000 in
set_option maxHeartbeats 400000 in
theorem sign_chr (r : Int) (w : World) : Calls Tryz.prog 60 #[.int .i32 r] w fun e w' => e = .returned (.int .u8 (signN r)) ∧ w' = w := by
  unfold signN
  by_cases h1 : r = 34
  · subst h1
    go_enter Tryz.func60, Tryz.ntmps60
    go_wp2
    go_ret
    exact ⟨rfl, rfl⟩
  by_cases h2 : r = 92
  · subst h2
    go_enter Tryz.func60, Tryz.ntmps60
    go_wp2
    go_ret
    exact ⟨rfl, rfl⟩
  rw [if_neg (by omega)]
  by_cases h3 : r = 10
  · subst h3
    go_enter Tryz.func60, Tryz.ntmps60
    go_wp2
    go_ret
    exact ⟨rfl, rfl⟩
  rw [if_neg h3]
  by_cases h4 : r = 13
  · subst h4
    go_enter Tryz.func60, Tryz.ntmps60
    go_wp2
    go_ret
    exact ⟨rfl, rfl⟩
  rw [if_neg h4]
  by_cases h5 : r = 9
  · subst h5
    go_enter Tryz.func60, Tryz.ntmps60
    go_wp2
    go_ret
    exact ⟨rfl, rfl⟩
  rw [if_neg h5]
  go_enter Tryz.func60, Tryz.ntmps60
  go_wp2
  go_ret
  exact ⟨rfl, rfl⟩
set_option maxRecDepth 100000 in
set_option maxHeartbeats 400000 in
theorem hidden_chr (r : Int) (w : World) : Calls Tryz.prog 61 #[.int .i32 r] w fun e w' => e = .returned (.bool (hidB r)) ∧ w' = w := by
  unfold hidB
  by_cases h1 : r < 32
  · rw [decide_eq_true h1]
    go_enter Tryz.func61, Tryz.ntmps61
    go_wp2
    go_ret
    exact ⟨rfl, rfl⟩
  rw [decide_eq_false h1]
  by_cases h2 : r = 127
  · subst h2
    go_enter Tryz.func61, Tryz.ntmps61
    go_wp2
    go_ret
    exact ⟨rfl, rfl⟩
  rw [decide_eq_false h2]
  go_enter Tryz.func61, Tryz.ntmps61
  go_wp2
  go_ret
  exact ⟨by simp [h2], rfl⟩
end Go.Proofs.YthffcdahjcpdfaaGreatDoor.Q

namespace Go.Proofs.YthffcdahjcpdfaaGreatDoor.Q
open Go.RowKit
set_option linter.unusedVariables false
set_option linter.unusedSimpArgs false

/-- A byte of a text, as a number; 0 behind its end. -/
def by8 (s : ByteArray) (k : Nat) : Nat := (s.data.toList.getD k 0).toNat
theorem by8_lt (s : ByteArray) (k : Nat) : by8 s k < 256 := by unfold by8; exact (s.data.toList.getD k 0).toNat_lt
theorem index_str (s : ByteArray) (k : Nat) (w : World) (h : k < s.size) : (Instr.index 9 (.string s) (.int .i64 (k : Int))).run Tryz.prog w = .ok (.int .u8 (by8 s k : Int)) w := by
  have hd : s.data.toList[k]? = some (s[k]'h) := by simp [h]; rfl
  have e : by8 s k = (s[k]'h).toNat := by
    unfold by8
    rw [List.getD_eq_getElem?_getD, hd]
    rfl
  rw [e]
  simp [Instr.index, asIntOf, run_underlying Tryz.underlying9, h]
/-- The bytes 1 to n - 1 go on, the first of them from lo to hi. -/
def TailP (s : ByteArray) (n lo hi : Nat) : Prop := n ≤ s.size ∧ lo ≤ by8 s 1 ∧ by8 s 1 ≤ hi ∧ ∀ i, 2 ≤ i → i < n → 128 ≤ by8 s i ∧ by8 s i ≤ 191
def TailOut (s : ByteArray) (n lo hi : Nat) (w : World) (e : Ending) (w' : World) : Prop := ∃ b, e = .returned (.bool b) ∧ (b = true ↔ TailP s n lo hi) ∧ w' = w
theorem tail_no {s : ByteArray} {n lo hi : Nat} {w : World} (h : ¬ TailP s n lo hi) : TailOut s n lo hi w (.returned (.bool false)) w := ⟨false, rfl, ⟨fun e => (by cases e), fun e => absurd e h⟩, rfl⟩
theorem tail_yes {s : ByteArray} {n lo hi : Nat} {w : World} (h : TailP s n lo hi) : TailOut s n lo hi w (.returned (.bool true)) w := ⟨true, rfl, ⟨fun _ => h, fun _ => rfl⟩, rfl⟩
end Go.Proofs.YthffcdahjcpdfaaGreatDoor.Q

