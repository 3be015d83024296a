import Derived.Test.YtdajeabhhkgibaaKWd
import Derived.Test.YtdajeabhhkgibaaKKm
namespace Go.Proofs.Ytdajeabhhkgibaa.K
open Go.RowKit
set_option linter.unusedVariables false
set_option linter.unusedSimpArgs false

variable {p : Nat} {g : Option Nat} {M : List UInt8} {e : Int}
theorem WS.view {w : World} {T : TypeId} (h : WS w T p g M e) : ∃ a cv, w.cell? ⟨p, 0, none⟩ = some (.slice a M.length cv) ∧ w.cell? ⟨p, 1, none⟩ = some (.int .i64 e) ∧ Byt w a M ∧ (a = none ∧ M = [] ∧ cv = 0 ∨ ∃ b, a = some ⟨b, 0, none⟩) := by
  obtain ⟨v, hq, own, hg⟩ := h.ex
  have c0 := (cell_of_row w p 0 _ _ _ hq).trans (show (#[v, .int .i64 e] : Array Value)[0]? = some v from rfl)
  have c1 := (cell_of_row w p 1 _ _ _ hq).trans (show (#[v, .int .i64 e] : Array Value)[1]? = some (.int .i64 e) from rfl)
  obtain ⟨a, cv, rfl, h1, h2, h3⟩ := own.open
  refine ⟨a, cv, c0, c1, h2, ?_⟩
  rcases own.2 with ⟨hv, hn⟩ | ⟨gg, cap, cur, hv, _⟩
  · simp only [Value.slice.injEq] at hv
    exact .inl ⟨hv.1, List.eq_nil_of_length_eq_zero hn, hv.2.2⟩
  · simp only [Value.slice.injEq] at hv
    exact .inr ⟨_, hv.1⟩
set_option maxRecDepth 100000 in
set_option maxHeartbeats 1000000 in
/-- Done, where there is no error and something was written. -/
theorem wdone0 (w : World) (hw : WS w 119 p g M 0) (hM : 0 < M.length) (hl : M.length ≤ 140737488355328) :
    Calls Try.prog 77 #[.pointer (some ⟨p, 0, none⟩)] w fun x w' => ∃ b cv, x = .returned (.tuple #[.slice (some ⟨b, 0, none⟩) M.length cv, .int .i64 0]) ∧ OwnB w' w.heap.size (.slice (some ⟨b, 0, none⟩) M.length cv) M ∧ Below w.heap.size w w' := by
  obtain ⟨a, cv, c0, c1, hb, ha⟩ := hw.view
  clear hw
  rcases ha with ⟨rfl, rfl, rfl⟩ | ⟨b, rfl⟩
  · simp at hM
  · have HC : Hid (Calls Try.prog 105 #[.slice (some ⟨b, 0, none⟩) M.length cv] w fun x w' => ∃ b cv, x = .returned (.slice (some ⟨b, 0, none⟩) M.length cv) ∧ OwnB w' w.heap.size (.slice (some ⟨b, 0, none⟩) M.length cv) M ∧ Below w.heap.size w w') := (clone_any b 0 M.length cv M w rfl hl hb).mono fun x w' h => by
      obtain ⟨v, h1, h2, h3⟩ := h
      obtain ⟨g, cap, rfl, _⟩ := h2.open1 hM
      exact ⟨g, cap, h1, h2, h3⟩
    clear hb hl
    generalize M.length = n at *
    go_enter Try.func77, Try.ntmps77
    go_wp2_with fail
    refine HC.out.mono ?_
    rintro x w1 ⟨b1, cv1, rfl, h2, h3⟩
    have H2 : Hid (OwnB w1 w.heap.size (.slice (some ⟨b1, 0, none⟩) n cv1) M) := h2
    have H3 : Hid (Below w.heap.size w w1) := h3
    clear h2 h3
    go_wp2
    go_ret2
    exact ⟨_, _, rfl, H2.out, H3.out⟩

end Go.Proofs.Ytdajeabhhkgibaa.K
