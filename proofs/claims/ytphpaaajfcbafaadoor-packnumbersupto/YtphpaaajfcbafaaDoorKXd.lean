import Derived.Test.YtphpaaajfcbafaaDoorKWb
import Derived.Test.YtphpaaajfcbafaaDoorKKs
namespace Go.Proofs.YtphpaaajfcbafaaDoor.K
open Go.RowKit
set_option linter.unusedVariables false
set_option linter.unusedSimpArgs false

theorem belowN (W : World) : Below W.heap.size W (W.alloc (.cells #[] 5)) := (Below.refl _ _).alloc (Nat.le_refl _) _
/-- What Done tells. -/
def dM (M : List UInt8) (e : Int) : List UInt8 := if e = 0 then M else []
variable {p : Nat} {g : Option Nat} {M : List UInt8} {e : Int}
theorem WS.see {w : World} {T : TypeId} (h : WS w T p g M e) : ∃ a cv, w.cell? ⟨p, 0, none⟩ = some (.slice a M.length cv) ∧ w.cell? ⟨p, 1, none⟩ = some (.int .i64 e) ∧ Byt w a M ∧ (a = none ∧ M = [] ∧ cv = 0 ∨ ∃ b, a = some ⟨b, 0, none⟩) := by
  obtain ⟨v, hq, own, hg⟩ := h.ex
  have c0 := (cell_of_row w p 0 _ _ _ hq).trans (show (#[v, .int .i64 e] : Array Value)[0]? = some v from rfl)
  have c1 := (cell_of_row w p 1 _ _ _ hq).trans (show (#[v, .int .i64 e] : Array Value)[1]? = some (.int .i64 e) from rfl)
  obtain ⟨a, cv, rfl, h1, h2, h3⟩ := own.open
  refine ⟨a, cv, c0, c1, h2, ?_⟩
  rcases own.2 with ⟨hv, hn⟩ | ⟨gg, cap, cur, hv, _⟩
  · simp only [Value.slice.injEq] at hv
    exact .inl ⟨hv.1, List.eq_nil_of_length_eq_zero hn, hv.2.2⟩
  · simp only [Value.slice.injEq] at hv
    exact .inr ⟨_, hv.1⟩
set_option maxRecDepth 100000 in
set_option maxHeartbeats 1000000 in
theorem clone_nil0 (w : World) : Calls Tryd.prog 45 #[.slice none 0 0] w fun x w' => x = .returned (.slice none 0 0) ∧ w' = w := by
  have hnil : ∀ W, (binOp .eql 22 (.slice none 0 0) (.slice none 0 0)).run Tryd.prog W = .ok (.bool true) W := fun W => Lib.run_eql_slice_nil_nil W 0 0 Tryd.underlying22
  go_enter Tryd.func45, Tryd.ntmps45
  go_wp2
  go_ret
  exact ⟨rfl, rfl⟩
set_option maxRecDepth 100000 in
set_option maxHeartbeats 1000000 in
theorem wdone_own (w : World) (hw : WS w 54 p g M e) (hl : M.length ≤ 225000000000000) :
    Calls Tryd.prog 29 #[.pointer (some ⟨p, 0, none⟩)] w fun x w' => ∃ v, x = .returned (.tuple #[v, .int .i64 e]) ∧ OwnB w' w.heap.size v (dM M e) ∧ Below w.heap.size w w' := by
  obtain ⟨a, cv, c0, c1, hb, ha⟩ := hw.see
  clear hw
  by_cases he : e = 0
  · subst he
    have eD : dM M 0 = M := by simp [dM]
    rw [eD]
    clear eD
    rcases ha with ⟨rfl, rfl, rfl⟩ | ⟨b, rfl⟩
    · have HC := Hid.mk' (clone_nil0 w)
      clear hb hl
      go_enter Tryd.func29, Tryd.ntmps29
      go_wp2_with fail
      refine HC.out.mono ?_
      rintro x w1 ⟨rfl, hw1⟩
      subst hw1
      go_wp2
      go_ret2
      exact ⟨_, rfl, ownB_nil _ _, Below.refl _ _⟩
    · have HC : Hid (Calls Tryd.prog 45 #[.slice (some ⟨b, 0, none⟩) M.length cv] w fun x w' => ∃ v, x = .returned v ∧ OwnB w' w.heap.size v M ∧ Below w.heap.size w w') := clone_any b 0 M.length cv M w rfl hl hb
      clear hb hl
      go_enter Tryd.func29, Tryd.ntmps29
      go_wp2_with fail
      refine HC.out.mono ?_
      rintro x w1 ⟨v, rfl, h2, h3⟩
      have H2 := Hid.mk' h2
      have H3 := Hid.mk' h3
      clear h2 h3
      go_wp2
      go_ret2
      exact ⟨_, rfl, H2.out, H3.out⟩
  · have eD : dM M e = [] := by simp [dM, he]
    rw [eD]
    clear hb ha eD
    go_enter Tryd.func29, Tryd.ntmps29
    go_wp2
    go_quiet (fail)
    go_wp2
    go_ret2
    exact ⟨_, rfl, ownB_nil _ _, below_drewN (Below.refl _ _) _⟩
theorem ws_zero (w : World) (T : TypeId) : WS (w.alloc (.cells #[.slice none 0 0, .int .i64 0] T)) T w.heap.size none [] 0 := ⟨⟨_, heap_alloc_new _ _, ownB_nil _ _, rfl⟩, by simp⟩
end Go.Proofs.YtphpaaajfcbafaaDoor.K
