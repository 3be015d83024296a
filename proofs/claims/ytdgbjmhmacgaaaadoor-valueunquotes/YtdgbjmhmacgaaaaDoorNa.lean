import Derived.Test.YtdgbjmhmacgaaaaDoorRi
import Derived.Test.YtdgbjmhmacgaaaaDoorLaws
import Derived.Laws.Rows
namespace Go.Proofs.YtdgbjmhmacgaaaaDoor
open Go.RowKit
set_option linter.unusedVariables false
set_option linter.unusedSimpArgs false

/-- The kinds' names. -/
def nmL : List (List UInt8) := [[110, 117, 108, 108], [98, 111, 111, 108], [105, 110, 116], [102, 108, 111, 97, 116], [116, 101, 120, 116], [98, 121, 116, 101, 115], [116, 105, 109, 101], [99, 111, 117, 110, 116, 101, 114], [109, 97, 112], [108, 105, 115, 116], [115, 116, 114, 105, 110, 103], [111, 117, 116, 108, 105, 110, 101]]
def nmB (j : Nat) : ByteArray := ⟨(nmL.getD j []).toArray⟩
def nmC : Array Value := (nmL.map fun l => Value.string ⟨l.toArray⟩).toArray
def NamesAt (g : Nat) (w : World) : Prop := ∃ t fr, w.heap[g]? = some (.cells nmC t fr)
theorem nmC_at (j : Nat) (h : j < 12) : nmC[j]? = some (.string (nmB j)) := by
  simp [nmC, nmB, List.getElem?_eq_getElem (show j < nmL.length from h)]
theorem names_cell {g : Nat} {w : World} (h : NamesAt g w) (j : Nat) (hj : j < 12) : w.cell? ⟨g, j, none⟩ = some (.string (nmB j)) := by
  obtain ⟨t, fr, h⟩ := h
  exact (cell_of_row w g j _ _ _ h).trans (nmC_at j hj)
theorem NamesAt.below {g : Nat} {w w' : World} (h : NamesAt g w) (hb : Below w.heap.size w w') : NamesAt g w' := by
  obtain ⟨t, fr, h⟩ := h
  exact ⟨t, fr, by rw [hb.block _ (Array.getElem?_eq_some_iff.1 h).1]; exact h⟩

set_option maxRecDepth 100000 in
set_option maxHeartbeats 400000 in
theorem name_any (k : Nat) (w : World) (hk : k < 12) (hN : NamesAt 0 w) :
    Calls Tryd.prog 19 #[.int .u8 k] w fun e w' => e = .returned (.string (nmB k)) ∧ w' = w := by
  have h1 : ¬ (12 : Int) ≤ (k : Int) := by omega
  have hc := names_cell hN k hk
  go_enter Tryd.func19, Tryd.ntmps19
  go_wp2
  go_ret
  exact ⟨rfl, rfl⟩
set_option maxRecDepth 100000 in
set_option maxHeartbeats 400000 in
theorem name_none (k : Int) (w : World) (hk : 12 ≤ k) (hk2 : k ≤ 255) :
    Calls Tryd.prog 19 #[.int .u8 k] w fun e w' => e = .returned (.string ⟨#[]⟩) ∧ w' = w := by
  go_enter Tryd.func19, Tryd.ntmps19
  go_wp2
  go_ret
  exact ⟨rfl, rfl⟩
set_option maxRecDepth 100000 in
set_option maxHeartbeats 400000 in
theorem rname_any (k : Nat) (w : World) (hk : k < 12) (hN : NamesAt 1 w) :
    Calls Tryd.prog 25 #[.int .u8 k] w fun e w' => e = .returned (.string (nmB k)) ∧ w' = w := by
  have h1 : ¬ (11 : Int) < (k : Int) := by omega
  have hc := names_cell hN k hk
  go_enter Tryd.func25, Tryd.ntmps25
  go_wp2
  go_ret
  exact ⟨rfl, rfl⟩
set_option maxRecDepth 100000 in
set_option maxHeartbeats 400000 in
theorem rname_none (k : Int) (w : World) (hk : 12 ≤ k) :
    Calls Tryd.prog 25 #[.int .u8 k] w fun e w' => e = .returned (.string ⟨#[]⟩) ∧ w' = w := by
  have h1 : (11 : Int) < k := by omega
  go_enter Tryd.func25, Tryd.ntmps25
  go_wp2
  go_ret
  exact ⟨rfl, rfl⟩

/-- What KindOf says of a name. -/
def KO (s : ByteArray) (e : Ending) : Prop := (∃ k : Nat, k < 12 ∧ nmB k = s ∧ e = .returned (.tuple #[.int .u8 k, .int .i64 0])) ∨ ((∀ k, k < 12 → nmB k ≠ s) ∧ e = .returned (.tuple #[.int .u8 0, .int .i64 4]))


theorem toList_data (s : ByteArray) : s.toList = s.data.toList := ByteArray.toList_eq s
theorem str_eq {a b : ByteArray} : (a.toList == b.toList) = decide (a = b) := by
  have h1 : a = b ↔ a.data.toList = b.data.toList := by
    constructor
    · rintro rfl; rfl
    · intro h
      cases a; cases b
      simp at h
      rw [h]
  rw [toList_data, toList_data]
  by_cases h : a = b
  · simp [h]
  · have h2 : ¬ a.data.toList = b.data.toList := fun e => h (h1.2 e)
    rw [decide_eq_false h]
    exact beq_eq_false_iff_ne.2 h2
theorem ko_some {s : ByteArray} {k : Nat} (h : k < 12) (he : nmB k = s) : KO s (.returned (.tuple #[.int .u8 k, .int .i64 0])) := .inl ⟨k, h, he, rfl⟩
theorem ko_none {s : ByteArray} (h : ∀ k, k < 12 → nmB k ≠ s) : KO s (.returned (.tuple #[.int .u8 0, .int .i64 4])) := .inr ⟨h, rfl⟩

theorem res21 (tmps : Array Value) (w : World) (a b : Value) (h1 : tmps.getD 2 undef = a) (h2 : tmps.getD 3 undef = b) : (results Tryd.f21 tmps).run Tryd.prog w = .ok (.tuple #[a, b]) w := by
  subst h1 h2
  simp [results, Tryd.results21]
theorem res20 (tmps : Array Value) (w : World) (a b : Value) (h1 : tmps.getD 2 undef = a) (h2 : tmps.getD 3 undef = b) : (results Tryd.f20 tmps).run Tryd.prog w = .ok (.tuple #[a, b]) w := by
  subst h1 h2
  simp [results, Tryd.results20]

set_option maxRecDepth 100000 in
set_option maxHeartbeats 1000000 in
theorem rkind_any (s : ByteArray) (w : World) (hN : NamesAt 1 w) :
    Calls Tryd.prog 21 #[.string s] w fun e w' => KO s e ∧ w' = w := by
  go_enter Tryd.func21, Tryd.ntmps21
  go_wp2
  go_loopw [4] (fun i wr => ∃ k : Nat, k ≤ 12 ∧ i = .int .i64 k ∧ wr = w ∧ ∀ j, j < k → nmB j ≠ s) (fun i _ => 12 - (intOf i).toNat)
  case atStart => exact ⟨0, by omega, rfl, rfl, fun j hj => by omega⟩
  case round =>
    obtain ⟨k, hk, rfl, rfl, hj⟩ := hrel
    by_cases h1 : k < 12
    · have hc := names_cell hN k h1
      have hz : (k : Int) < 12 := by omega
      by_cases he : nmB k = s
      · have hq : ((nmB k).toList == s.toList) = true := by rw [str_eq]; simpa using he
        go_wp2
        exact bodyPost_ret (res21 _ _ _ _ rfl rfl) rfl ⟨ko_some h1 he, rfl⟩
      · have hq : ((nmB k).toList == s.toList) = false := by rw [str_eq]; simpa using he
        go_wp2
        go_roundw
        case rel => refine ⟨k + 1, by omega, by go_num, by trivial, fun j hj2 => ?_⟩; exact (by
          rcases Nat.lt_or_ge j k with h | h
          · exact hj j h
          · have : j = k := by omega
            subst this; exact he)
        case measure => simp [intOf]; omega
    · have hz : ¬ (k : Int) < 12 := by omega
      have hk12 : k = 12 := by omega
      subst hk12
      go_wp2
      exact bodyPost_ret (res21 _ _ _ _ rfl rfl) rfl ⟨ko_none hj, rfl⟩
theorem nmC_size : nmC.size = 12 := rfl
theorem info9 : ∃ i, Tryd.prog.info? 9 = some i ∧ i.size = 1 := by
  have h : (Tryd.prog.info? 9).map (·.size) = some 1 := by kernel_rfl
  cases hq : Tryd.prog.info? 9 with
  | none => rw [hq] at h; simp at h
  | some i => exact ⟨i, rfl, by rw [hq] at h; simpa using h⟩
theorem und62 : Tryd.prog.underlying 62 = some (.array 12 9) := by kernel_rfl
theorem inf62 : (Tryd.prog.info? 62).map (·.size) = some nmC.size := by kernel_rfl
theorem index62 (k : Nat) (hk : k < 12) (w : World) :
    (Instr.index 62 (.agg nmC) (.int .i64 (k : Int))).run Tryd.prog w = .ok (.string (nmB k)) w := by
  obtain ⟨i, hi, hs⟩ := info9
  have hp := run_part_plain (P := Tryd.prog) w (e := 9) (by simp [Program.plainKey, Tryd.underlying9]) (off := k) (nmC_at k hk)
  simp only [Instr.index, asIntOf, Sem.run_bind, Sem.run_pure, Result.andThen_ok, run_underlying und62]
  rw [Sem.run_ite, if_pos ⟨by omega, by omega⟩]
  simp only [Sem.run_bind, sizeOf, typeInfo, hi, hs]
  simp [hi, hs, hp]
set_option maxRecDepth 100000 in
set_option maxHeartbeats 1000000 in
theorem kind_any (s : ByteArray) (w : World) (hN : NamesAt 0 w) :
    Calls Tryd.prog 20 #[.string s] w fun e w' => KO s e ∧ w' = w := by
  obtain ⟨t, fr, hg⟩ := hN
  go_enter Tryd.func20, Tryd.ntmps20
  go_wp2_with (first | (refine wpList_load_arr rfl 62 (.global 0) rfl 0 rfl t nmC fr _ hg und62 rfl inf62 ?_) | fail)
  go_loopw [7] (fun i wr => ∃ k : Nat, k ≤ 12 ∧ i = .int .i64 k ∧ wr = w ∧ ∀ j, j < k → nmB j ≠ s) (fun i _ => 12 - (intOf i).toNat)
  case atStart => exact ⟨0, by omega, rfl, rfl, fun j hj => by omega⟩
  case round =>
    obtain ⟨k, hk, rfl, rfl, hj⟩ := hrel
    have hs := nmC_size
    by_cases h1 : k < 12
    · have hc := nmC_at k h1
      have hz : (k : Int) < 12 := by omega
      have hx := index62 k h1 wr
      clear hc hs
      by_cases he : nmB k = s
      · have hq : ((nmB k).toList == s.toList) = true := by rw [str_eq]; simpa using he
        go_wp2
        exact bodyPost_ret (res20 _ _ _ _ rfl rfl) rfl ⟨ko_some h1 he, rfl⟩
      · have hq : ((nmB k).toList == s.toList) = false := by rw [str_eq]; simpa using he
        go_wp2
        go_roundw
        case rel => refine ⟨k + 1, by omega, by go_num, by trivial, fun j hj2 => ?_⟩; exact (by
          rcases Nat.lt_or_ge j k with h | h
          · exact hj j h
          · have : j = k := by omega
            subst this; exact he)
        case measure => simp [intOf]; omega
    · have hz : ¬ (k : Int) < 12 := by omega
      have hk12 : k = 12 := by omega
      subst hk12
      go_wp2
      exact bodyPost_ret (res20 _ _ _ _ rfl rfl) rfl ⟨ko_none hj, rfl⟩
end Go.Proofs.YtdgbjmhmacgaaaaDoor
