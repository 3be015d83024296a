import Derived.Test.YtphpaaajfcbafaaKOb
namespace Go.Proofs.Ytphpaaajfcbafaa.K
open Go.RowKit
set_option linter.unusedVariables false
set_option linter.unusedSimpArgs false

theorem made_bs (n : Nat) : madeCells #[.int .u8 0] n = bs (List.replicate n 0) := by
  apply Array.ext
  · simp [madeCells, bs]
  · intro i h1 h2
    simp [madeCells, bs, Nat.mod_one]
set_option maxHeartbeats 2000000 in
/-- The same bytes at two places. -/
theorem same_any (a1 a2 : Option Addr) (l : List UInt8) (n c1 c2 : Nat) (w : World) (hn : l.length = n) (h1 : Byt w a1 l) (h2 : Byt w a2 l) (hl : n ≤ 225000000000000) :
    Calls Try.prog 4 #[.slice a1 n c1, .slice a2 n c2] w fun e w' => e = .returned (.bool true) ∧ ∃ m, w' = w.drewN m := by
  subst hn
  go_enter Try.func4, Try.ntmps4
  go_wp2
  go_loopw [5] (fun i wr => ∃ k : Nat, k ≤ l.length ∧ i = .int .i64 k ∧ ∃ m, wr = w.drewN m) (fun i _ => l.length - (intOf i).toNat)
  case atStart => exact ⟨0, Nat.zero_le _, rfl, 0, rfl⟩
  case round =>
    obtain ⟨k, hk, rfl, m, rfl⟩ := hrel
    by_cases hlt : k < l.length
    · rcases h1 with rfl | ⟨b1, o1, rfl, d1⟩
      · simp at hlt
      rcases h2 with rfl | ⟨b2, o2, rfl, d2⟩
      · simp at hlt
      have e1 := d1 k hlt
      have e2 := d2 k hlt
      go_wp2
      go_quiet (fail)
      go_wp2
      go_roundw
      case rel => exact ⟨k + 1, by omega, by go_num, _, rfl⟩
      case measure => simp [intOf]; omega
    · have hk2 : k = l.length := by omega
      subst hk2
      go_wp2
      go_ret
      exact ⟨rfl, m, rfl⟩

/-- The marks behind what is handed in. -/
def marks : List UInt8 := [160, 161, 162, 163, 164, 165, 166, 167, 168]
/-- What is handed in, with its marks, as far as place k. -/
def handTo (l : List UInt8) (k : Nat) : List UInt8 := (l ++ marks).take k ++ List.replicate (l.length + 9 - k) 0
theorem handTo_len (l : List UInt8) (k : Nat) (h : k ≤ l.length + 9) : (handTo l k).length = l.length + 9 := by
  simp [handTo, marks]; omega
theorem handTo_zero (l : List UInt8) : handTo l 0 = List.replicate (l.length + 9) 0 := by simp [handTo]
theorem handTo_all (l : List UInt8) : handTo l (l.length + 9) = l ++ marks := by
  unfold handTo
  rw [List.take_of_length_le (by simp [marks])]
  simp
theorem handTo_succ (l : List UInt8) (k : Nat) (v : UInt8) (h : k < l.length + 9) (hv : (l ++ marks).getD k 0 = v) : (handTo l k).set k v = handTo l (k + 1) := by
  have hL : k < (l ++ marks).length := by simp [marks]; omega
  unfold handTo
  have e : l.length + 9 - k = (l.length + 9 - (k + 1)) + 1 := by omega
  have e1 : ((l ++ marks).take k).length = k := by rw [List.length_take]; omega
  rw [e, List.replicate_succ, List.set_append_right _ _ (by omega), e1, Nat.sub_self, List.take_succ_eq_append_getElem hL]
  have e2 : (l ++ marks)[k] = v := by rw [← hv]; simp [List.getElem?_eq_getElem hL]
  rw [e2]
  simp
theorem mark_at (l : List UInt8) (k : Nat) (h : k < 9) : at8 (l ++ marks) (l.length + k) = 160 + (k : Int) := by
  have e : (l ++ marks).getD (l.length + k) 0 = marks.getD k 0 := by
    simp [List.getElem?_append_right]
  unfold at8
  rw [e]
  have : ∀ k : Fin 9, (((marks.getD k.val 0).toNat : Nat) : Int) = 160 + (k.val : Int) := by decide
  exact this ⟨k, h⟩
theorem own_at (l : List UInt8) (k : Nat) (h : k < l.length) : at8 (l ++ marks) k = at8 l k := by
  simp [at8, List.getElem?_append_left h]

end Go.Proofs.Ytphpaaajfcbafaa.K
