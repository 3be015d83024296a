import Derived.Test.YtkinjcblngkeiaaDoorWi
import Derived.Test.YtkinjcblngkeiaaDoorWj
import Derived.Test.YtkinjcblngkeiaaDoorWk
import Derived.Test.YtkinjcblngkeiaaDoorWl
namespace Go.Proofs.YtkinjcblngkeiaaDoor
open Go.RowKit
set_option linter.unusedVariables false
set_option linter.unusedSimpArgs false

/-- What a Writer has behind a value. -/
def wM (M : List UInt8) (e : Int) (k n : Int) (f : Nat) (s : ByteArray) : List UInt8 := if V.rightV k n f s = true then wA M e (wv k n f s) else M
def wE (e : Int) (k n : Int) (f : Nat) (s : ByteArray) : Int := if V.rightV k n f s = true then e else if e = 0 then 30 else e
variable {p : Nat} {g : Option Nat} {M : List UInt8} {e : Int}
theorem right_hi {k n : Int} {f : Nat} {s : ByteArray} (hr : V.rightV k n f s = true) : k ≤ 11 := by
  refine Classical.byContradiction fun h => ?_
  unfold V.rightV at hr
  rw [if_neg (by omega), if_neg (by omega), V.rightB_high k n f s (by omega)] at hr
  cases hr
theorem write_any (k n : Int) (f : Nat) (s : ByteArray) (hk : 0 ≤ k) (hn0 : -9223372036854775808 ≤ n) (hn1 : n < 9223372036854775808) (hf : f < 18446744073709551616) (hs : s.size ≤ 9223372036854775807) (w : World) (hw : WS w 26 p g M e) (hT : Tabs w) (hp4 : 4 ≤ p) (hg4 : ∀ k, g = some k → 4 ≤ k) (hsum : M.length + 2000 ≤ 140737488355328) :
    Calls Tryd.prog 5 #[.pointer (some ⟨p, 0, none⟩), .agg #[.int .u8 k, .int .i64 n, .float .f64 f, .string s]] w fun x w' => x = .returned (.tuple #[]) ∧ Wr w w' 26 p g (wM M e k n f s) (wE e k n f s) := by
  by_cases hr : V.rightV k n f s = true
  · have e1 : wM M e k n f s = wA M e (wv k n f s) := by unfold wM; rw [if_pos hr]
    have e2 : wE e k n f s = e := by unfold wE; rw [if_pos hr]
    rw [e1, e2]
    have h11 := right_hi hr
    rcases (show k = 0 ∨ k = 1 ∨ k = 2 ∨ k = 3 ∨ k = 4 ∨ k = 5 ∨ k = 6 ∨ k = 7 ∨ k = 8 ∨ k = 9 ∨ k = 10 ∨ k = 11 by omega) with rfl | rfl | rfl | rfl | rfl | rfl | rfl | rfl | rfl | rfl | rfl | rfl
    · exact write_0 n f s hn0 hn1 hf hs w hw hT hp4 hg4 hsum hr
    · exact write_1 n f s hn0 hn1 hf hs w hw hT hp4 hg4 hsum hr
    · exact write_2 n f s hn0 hn1 hf hs w hw hT hp4 hg4 hsum hr
    · exact write_3 n f s hn0 hn1 hf hs w hw hT hp4 hg4 hsum hr
    · exact write_4 n f s hn0 hn1 hf hs w hw hT hp4 hg4 hsum hr
    · exact write_5 n f s hn0 hn1 hf hs w hw hT hp4 hg4 hsum hr
    · exact write_6 n f s hn0 hn1 hf hs w hw hT hp4 hg4 hsum hr
    · exact write_7 n f s hn0 hn1 hf hs w hw hT hp4 hg4 hsum hr
    · exact write_8 n f s hn0 hn1 hf hs w hw hT hp4 hg4 hsum hr
    · exact write_9 n f s hn0 hn1 hf hs w hw hT hp4 hg4 hsum hr
    · exact write_10 n f s hn0 hn1 hf hs w hw hT hp4 hg4 hsum hr
    · exact write_11 n f s hn0 hn1 hf hs w hw hT hp4 hg4 hsum hr
  · have hr' : V.rightV k n f s = false := by simpa using hr
    have e1 : wM M e k n f s = M := by unfold wM; rw [if_neg hr]
    have e2 : wE e k n f s = if e = 0 then 30 else e := by unfold wE; rw [if_neg hr]
    rw [e1, e2]
    exact write_no k hk n f s hn0 hn1 hf hs w hw hT hp4 hg4 hsum hr'
theorem xwrite_any (k n : Int) (f : Nat) (s : ByteArray) (hk : 0 ≤ k) (hn0 : -9223372036854775808 ≤ n) (hn1 : n < 9223372036854775808) (hf : f < 18446744073709551616) (hs : s.size ≤ 9223372036854775807) (w : World) (hw : WS w 28 p g M e) (hT : Tabs w) (hp4 : 4 ≤ p) (hg4 : ∀ k, g = some k → 4 ≤ k) (hsum : M.length + 2000 ≤ 140737488355328) :
    Calls Tryd.prog 6 #[.pointer (some ⟨p, 0, none⟩), .agg #[.int .u8 k, .int .i64 n, .float .f64 f, .string s]] w fun x w' => x = .returned (.tuple #[]) ∧ Wr w w' 28 p g (wM M e k n f s) (wE e k n f s) := by
  by_cases hr : V.rightV k n f s = true
  · have e1 : wM M e k n f s = wA M e (wv k n f s) := by unfold wM; rw [if_pos hr]
    have e2 : wE e k n f s = e := by unfold wE; rw [if_pos hr]
    rw [e1, e2]
    have h11 := right_hi hr
    rcases (show k = 0 ∨ k = 1 ∨ k = 2 ∨ k = 3 ∨ k = 4 ∨ k = 5 ∨ k = 6 ∨ k = 7 ∨ k = 8 ∨ k = 9 ∨ k = 10 ∨ k = 11 by omega) with rfl | rfl | rfl | rfl | rfl | rfl | rfl | rfl | rfl | rfl | rfl | rfl
    · exact xwrite_0 n f s hn0 hn1 hf hs w hw hT hp4 hg4 hsum hr
    · exact xwrite_1 n f s hn0 hn1 hf hs w hw hT hp4 hg4 hsum hr
    · exact xwrite_2 n f s hn0 hn1 hf hs w hw hT hp4 hg4 hsum hr
    · exact xwrite_3 n f s hn0 hn1 hf hs w hw hT hp4 hg4 hsum hr
    · exact xwrite_4 n f s hn0 hn1 hf hs w hw hT hp4 hg4 hsum hr
    · exact xwrite_5 n f s hn0 hn1 hf hs w hw hT hp4 hg4 hsum hr
    · exact xwrite_6 n f s hn0 hn1 hf hs w hw hT hp4 hg4 hsum hr
    · exact xwrite_7 n f s hn0 hn1 hf hs w hw hT hp4 hg4 hsum hr
    · exact xwrite_8 n f s hn0 hn1 hf hs w hw hT hp4 hg4 hsum hr
    · exact xwrite_9 n f s hn0 hn1 hf hs w hw hT hp4 hg4 hsum hr
    · exact xwrite_10 n f s hn0 hn1 hf hs w hw hT hp4 hg4 hsum hr
    · exact xwrite_11 n f s hn0 hn1 hf hs w hw hT hp4 hg4 hsum hr
  · have hr' : V.rightV k n f s = false := by simpa using hr
    have e1 : wM M e k n f s = M := by unfold wM; rw [if_neg hr]
    have e2 : wE e k n f s = if e = 0 then 30 else e := by unfold wE; rw [if_neg hr]
    rw [e1, e2]
    exact xwrite_no k hk n f s hn0 hn1 hf hs w hw hT hp4 hg4 hsum hr'
theorem b8_len (f : Nat) : (b8 f).length = 8 := rfl
theorem wv_len (k n : Int) (f : Nat) (s : ByteArray) (hn0 : -9223372036854775808 ≤ n) (hn1 : n < 9223372036854775808) (hr : V.rightV k n f s = true) : (wv k n f s).length ≤ 1100 := by
  have hz : zig n < 18446744073709551616 := by unfold zig; split <;> omega
  have h1 := vint_10 (zig n) hz
  have h2 := vint_10 n.toNat (by omega)
  have hl : s.data.toList.length = s.size := by simp
  unfold wv
  rw [List.length_cons]
  by_cases k4 : k = 4 ∨ k = 5
  · have hs : s.size ≤ 1000 := by
      rcases k4 with rfl | rfl
      · unfold V.rightV V.rightT at hr
        simp at hr
        omega
      · unfold V.rightV V.rightB at hr
        simp at hr
        omega
    have h3 := vint_10 s.size (by omega)
    repeat' split
    all_goals first | (simp only [List.length_cons, List.length_nil]; omega) | (rw [b8_len]; omega) | (rw [List.length_append, hl]; omega) | omega
  · repeat' split
    all_goals first | (simp only [List.length_cons, List.length_nil]; omega) | (rw [b8_len]; omega) | omega | (exfalso; omega)
theorem wM_len (M : List UInt8) (e k n : Int) (f : Nat) (s : ByteArray) (hn0 : -9223372036854775808 ≤ n) (hn1 : n < 9223372036854775808) : (wM M e k n f s).length ≤ M.length + 1100 := by
  unfold wM
  split
  · rename_i hr
    have := wA_len M e (wv k n f s)
    have := wv_len k n f s hn0 hn1 hr
    omega
  · omega
end Go.Proofs.YtkinjcblngkeiaaDoor
