import Derived.Test.YtdgbjmhmacgaaaaDoorUc
import Derived.Test.YtdgbjmhmacgaaaaDoorQh
namespace Go.Proofs.YtdgbjmhmacgaaaaDoor
open Go.RowKit
set_option linter.unusedVariables false
set_option linter.unusedSimpArgs false

/-- The digits behind u of a character that is written by its code. -/
def wdC (c : Nat) : ByteArray := { data := #[117, 48, 48] } ++ ⟨#[hx ((c : Int) / 16), hx ((c : Int) % 16)]⟩
theorem wdC_list (c : Nat) : (wdC c).data.toList = [117, 48, 48, hx ((c : Int) / 16), hx ((c : Int) % 16)] := by
  unfold wdC
  rw [ByteArray.data_append]
  rfl
theorem wdC_size (c : Nat) : (wdC c).size = 5 := by
  have h := congrArg List.length (wdC_list c)
  simpa using h
/-- k bytes of a text stand as in another, and the next one does not. -/
structure MQ (s t : ByteArray) (k : Nat) : Prop where
  le4 : k ≤ t.size
  le : k ≤ s.size
  all : ∀ j, j < k → by8 s j = by8 t j
  stop : k < t.size → k < s.size → by8 s k ≠ by8 t k
def Elig (c : Nat) : Prop := (c < 32 ∨ c = 127) ∧ c ≠ 10 ∧ c ≠ 13 ∧ c ≠ 9
structure BestP (s : ByteArray) (c best : Nat) : Prop where
  all : ∀ d, d < c → Elig d → ∃ k, MQ s (wdC d) k ∧ k < 5 ∧ k ≤ best
  some : best = 0 ∨ ∃ d, d < c ∧ Elig d ∧ MQ s (wdC d) best
/-- What the reference's escape tells. -/
def EscRV (s : ByteArray) (v : Int × Int × Int) : Prop :=
  (s.size = 0 ∧ v = (0, 0, 0)) ∨
  (0 < s.size ∧ (by8 s 0 = 34 ∨ by8 s 0 = 92) ∧ v = ((by8 s 0 : Int), 1, 0)) ∨
  (0 < s.size ∧ by8 s 0 = 110 ∧ v = (10, 1, 0)) ∨
  (0 < s.size ∧ by8 s 0 = 114 ∧ v = (13, 1, 0)) ∨
  (0 < s.size ∧ by8 s 0 = 116 ∧ v = (9, 1, 0)) ∨
  (0 < s.size ∧ (by8 s 0 ≠ 34 ∧ by8 s 0 ≠ 92 ∧ by8 s 0 ≠ 110 ∧ by8 s 0 ≠ 114 ∧ by8 s 0 ≠ 116) ∧ ((∃ c : Nat, c < 128 ∧ Elig c ∧ MQ s (wdC c) 5 ∧ v = ((c : Int), 5, 0)) ∨ ∃ best : Nat, BestP s 128 best ∧ v = (0, 0, (best : Int))))
def EscROut (s : ByteArray) (w : World) (e : Ending) (w' : World) : Prop := (∃ v, EscRV s v ∧ e = .returned (.tuple #[.int .u8 v.1, .int .i64 v.2.1, .int .i64 v.2.2])) ∧ Below w.heap.size w w'
theorem escR_mk {s : ByteArray} {w w' : World} {a b c : Int} (h : EscRV s (a, b, c)) (hw : Below w.heap.size w w') : EscROut s w (.returned (.tuple #[.int .u8 a, .int .i64 b, .int .i64 c])) w' :=
  ⟨⟨(a, b, c), h, rfl⟩, hw⟩
theorem res57 (tmps : Array Value) (w : World) (a b c : Value) (h1 : tmps.getD 4 undef = a) (h2 : tmps.getD 5 undef = b) (h3 : tmps.getD 6 undef = c) : (results Tryd.f57 tmps).run Tryd.prog w = .ok (.tuple #[a, b, c]) w := by
  subst h1 h2 h3
  simp [results, Tryd.results57]
theorem empty_list0 {s : ByteArray} (h : s.size = 0) : s.toList.isEmpty = true := by
  rw [Lib.toList_data]
  have : s.data.toList = [] := List.eq_nil_of_length_eq_zero (by rw [← Lib.size_eq]; exact h)
  rw [this]; rfl
theorem not_empty0 (s : ByteArray) (h : 0 < s.size) : s.toList.isEmpty = false := by
  rw [Lib.toList_data]
  cases hl : s.data.toList with
  | nil => exact absurd (by rw [Lib.size_eq, hl]; rfl) (Nat.ne_of_gt h)
  | cons _ _ => rfl
set_option maxRecDepth 100000 in
set_option maxHeartbeats 4000000 in
theorem rescape_few (s : ByteArray) (w : World) (hs : s.size ≤ 140737488355328) (h : s.size = 0 ∨ by8 s 0 = 34 ∨ by8 s 0 = 92 ∨ by8 s 0 = 110 ∨ by8 s 0 = 114 ∨ by8 s 0 = 116) :
    Calls Tryd.prog 57 #[.string s, .int .u8 34] w (EscROut s w) := by
  by_cases h0 : s.size = 0
  · have hE := empty_list0 h0
    have hV : EscRV s (0, 0, 0) := .inl ⟨h0, rfl⟩
    go_enter Tryd.func57, Tryd.ntmps57
    go_wp2
    exact bodyPost_ret (res57 _ _ _ _ _ rfl rfl rfl) rfl (escR_mk hV (Below.refl _ _))
  have h0s : 0 < s.size := by omega
  have h0' : (0 : Int) < (s.size : Int) := by omega
  have hE := not_empty0 s h0s
  obtain ⟨b, hb⟩ : ∃ b, (s[0]'h0s).toNat = b := ⟨_, rfl⟩
  have g : by8 s 0 = b := by rw [by8_get s 0 h0s, hb]
  rw [g] at h
  have hV : Hid (∃ v, EscRV s v ∧ (b = 34 → v = (34, 1, 0)) ∧ (b = 92 → v = (92, 1, 0)) ∧ (b = 110 → v = (10, 1, 0)) ∧ (b = 114 → v = (13, 1, 0)) ∧ (b = 116 → v = (9, 1, 0))) := by
    rcases h with h | h | h | h | h | h
    · omega
    · exact ⟨(34, 1, 0), .inr (.inl ⟨h0s, by omega, by rw [g, h]; rfl⟩), by first | (intro _; rfl) | omega, by first | (intro _; rfl) | omega, by first | (intro _; rfl) | omega, by first | (intro _; rfl) | omega, by first | (intro _; rfl) | omega⟩
    · exact ⟨(92, 1, 0), .inr (.inl ⟨h0s, by omega, by rw [g, h]; rfl⟩), by first | (intro _; rfl) | omega, by first | (intro _; rfl) | omega, by first | (intro _; rfl) | omega, by first | (intro _; rfl) | omega, by first | (intro _; rfl) | omega⟩
    · exact ⟨(10, 1, 0), .inr (.inr (.inl ⟨h0s, by omega, rfl⟩)), by first | (intro _; rfl) | omega, by first | (intro _; rfl) | omega, by first | (intro _; rfl) | omega, by first | (intro _; rfl) | omega, by first | (intro _; rfl) | omega⟩
    · exact ⟨(13, 1, 0), .inr (.inr (.inr (.inl ⟨h0s, by omega, rfl⟩))), by first | (intro _; rfl) | omega, by first | (intro _; rfl) | omega, by first | (intro _; rfl) | omega, by first | (intro _; rfl) | omega, by first | (intro _; rfl) | omega⟩
    · exact ⟨(9, 1, 0), .inr (.inr (.inr (.inr (.inl ⟨h0s, by omega, rfl⟩)))), by first | (intro _; rfl) | omega, by first | (intro _; rfl) | omega, by first | (intro _; rfl) | omega, by first | (intro _; rfl) | omega, by first | (intro _; rfl) | omega⟩
  clear g
  rcases h with h | h | h | h | h | h
  · omega
  all_goals (
    subst h
    obtain ⟨v, hv, e1, e2, e3, e4, e5⟩ := hV.out
    first | (obtain rfl := e1 rfl) | (obtain rfl := e2 rfl) | (obtain rfl := e3 rfl) | (obtain rfl := e4 rfl) | (obtain rfl := e5 rfl)
    clear e1 e2 e3 e4 e5 hV
    go_enter Tryd.func57, Tryd.ntmps57
    go_wp2
    exact bodyPost_ret (res57 _ _ _ _ _ rfl rfl rfl) rfl (escR_mk hv (Below.refl _ _)))
end Go.Proofs.YtdgbjmhmacgaaaaDoor
