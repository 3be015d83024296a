import Derived.Test.YtkinjcblngkeiaaDoorWm
import Derived.Test.YtkinjcblngkeiaaDoorQr
namespace Go.Proofs.YtkinjcblngkeiaaDoor
open Go.RowKit
set_option linter.unusedVariables false
set_option linter.unusedSimpArgs false

/-- What Done tells. -/
def dM (M : List UInt8) (e : Int) : List UInt8 := if e = 0 then M else []
variable {p : Nat} {g : Option Nat} {M : List UInt8} {e : Int}
theorem WS.view {w : World} {T : TypeId} (h : WS w T p g M e) : ∃ a cv, w.cell? ⟨p, 0, none⟩ = some (.slice a M.length cv) ∧ w.cell? ⟨p, 1, none⟩ = some (.int .i64 e) ∧ Byt w a M ∧ (a = none ∧ M = [] ∧ cv = 0 ∨ ∃ b, a = some ⟨b, 0, none⟩) := by
  obtain ⟨v, hq, own, hg⟩ := h.ex
  have c0 := (cell_of_row w p 0 _ _ _ hq).trans (show (#[v, .int .i64 e] : Array Value)[0]? = some v from rfl)
  have c1 := (cell_of_row w p 1 _ _ _ hq).trans (show (#[v, .int .i64 e] : Array Value)[1]? = some (.int .i64 e) from rfl)
  obtain ⟨a, cv, rfl, h1, h2, h3⟩ := own.open
  refine ⟨a, cv, c0, c1, h2, ?_⟩
  rcases own.2 with ⟨hv, hn⟩ | ⟨gg, cap, cur, hv, _⟩
  · simp only [Value.slice.injEq] at hv
    exact .inl ⟨hv.1, List.eq_nil_of_length_eq_zero hn, hv.2.2⟩
  · simp only [Value.slice.injEq] at hv
    exact .inr ⟨_, hv.1⟩
set_option maxRecDepth 100000 in
set_option maxHeartbeats 1000000 in
theorem wlen_any (w : World) (hw : WS w 26 p g M e) :
    Calls Tryd.prog 10 #[.pointer (some ⟨p, 0, none⟩)] w fun x w' => x = .returned (.int .i64 (M.length : Int)) ∧ w' = w := by
  obtain ⟨a, cv, c0, c1, hb, _⟩ := hw.view
  clear hw hb
  go_enter Tryd.func10, Tryd.ntmps10
  go_wp2
  go_ret
  exact ⟨rfl, rfl⟩
set_option maxRecDepth 100000 in
set_option maxHeartbeats 1000000 in
theorem xlen_any (w : World) (hw : WS w 28 p g M e) :
    Calls Tryd.prog 11 #[.pointer (some ⟨p, 0, none⟩)] w fun x w' => x = .returned (.int .i64 (M.length : Int)) ∧ w' = w := by
  obtain ⟨a, cv, c0, c1, hb, _⟩ := hw.view
  clear hw hb
  go_enter Tryd.func11, Tryd.ntmps11
  go_wp2
  go_ret
  exact ⟨rfl, rfl⟩
set_option maxRecDepth 100000 in
set_option maxHeartbeats 1000000 in
theorem clone_nil (w : World) : Calls Tryd.prog 44 #[.slice none 0 0] w fun x w' => x = .returned (.slice none 0 0) ∧ w' = w := by
  have hnil : ∀ W, (binOp .eql 23 (.slice none 0 0) (.slice none 0 0)).run Tryd.prog W = .ok (.bool true) W := fun W => Lib.run_eql_slice_nil_nil W 0 0 Tryd.underlying23
  go_enter Tryd.func44, Tryd.ntmps44
  go_wp2
  go_ret
  exact ⟨rfl, rfl⟩
set_option maxRecDepth 100000 in
set_option maxHeartbeats 1000000 in
theorem wdone_any (w : World) (hw : WS w 26 p g M e) (hl : M.length ≤ 140737488355328) :
    Calls Tryd.prog 7 #[.pointer (some ⟨p, 0, none⟩)] w fun x w' => ∃ v, x = .returned (.tuple #[v, .int .i64 e]) ∧ OwnB w' 0 v (dM M e) ∧ Below w.heap.size w w' := by
  obtain ⟨a, cv, c0, c1, hb, ha⟩ := hw.view
  clear hw
  by_cases he : e = 0
  · subst he
    have eD : dM M 0 = M := by simp [dM]
    rw [eD]
    clear eD
    rcases ha with ⟨rfl, rfl, rfl⟩ | ⟨b, rfl⟩
    · have HC := Hid.mk' (clone_nil w)
      clear hb hl
      go_enter Tryd.func7, Tryd.ntmps7
      go_wp2_with fail
      refine HC.out.mono ?_
      rintro x w1 ⟨rfl, hw1⟩
      subst hw1
      go_wp2
      go_ret2
      exact ⟨_, rfl, ownB_nil _ _, Below.refl _ _⟩
    · have HC : Hid (Calls Tryd.prog 44 #[.slice (some ⟨b, 0, none⟩) M.length cv] w fun x w' => ∃ v, x = .returned v ∧ OwnB w' 0 v M ∧ Below w.heap.size w w') := (clone_any b 0 M.length cv M w rfl hl hb).mono fun x w' h => by
        obtain ⟨v, h1, h2, h3⟩ := h
        refine ⟨v, h1, ⟨h2.1, ?_⟩, h3⟩
        rcases h2.2 with hn | ⟨g, cap, cur, hv, hbg, rest⟩
        · exact .inl hn
        · exact .inr ⟨g, cap, cur, hv, Nat.zero_le _, rest⟩
      clear hb hl
      go_enter Tryd.func7, Tryd.ntmps7
      go_wp2_with fail
      refine HC.out.mono ?_
      rintro x w1 ⟨v, rfl, h2, h3⟩
      have H2 := Hid.mk' h2
      have H3 := Hid.mk' h3
      clear h2 h3
      go_wp2
      go_ret2
      exact ⟨_, rfl, H2.out, H3.out⟩
  · have eD : dM M e = [] := by simp [dM, he]
    rw [eD]
    clear hb ha eD
    go_enter Tryd.func7, Tryd.ntmps7
    go_wp2
    go_quiet (fail)
    go_wp2
    go_ret2
    exact ⟨_, rfl, ownB_nil _ _, below_drewN (Below.refl _ _) _⟩
set_option maxRecDepth 100000 in
set_option maxHeartbeats 1000000 in
theorem xdone_any (w : World) (hw : WS w 28 p g M e) (hl : M.length ≤ 140737488355328) :
    Calls Tryd.prog 8 #[.pointer (some ⟨p, 0, none⟩)] w fun x w' => ∃ v, x = .returned (.tuple #[v, .int .i64 e]) ∧ OwnB w' 0 v (dM M e) ∧ Below w.heap.size w w' := by
  have hws0 := hw.below (below0 w)
  obtain ⟨a, cv, c0, c1, hb, ha⟩ := hw.view
  have d0 : (w.alloc (.cells #[] 5)).cell? ⟨p, 0, none⟩ = some (.slice a M.length cv) := ((below0 w).cell (p := ⟨p, 0, none⟩) hw.lt).trans c0
  clear hw hws0
  by_cases he : e = 0
  · subst he
    have eD : dM M 0 = M := by simp [dM]
    rw [eD]
    clear eD
    have O0 : Hid (OwnB (w.alloc (.cells #[] 5)) 0 (.slice (some ⟨w.heap.size, 0, none⟩) 0 0) []) := ⟨rfl, .inr ⟨w.heap.size, 0, #[], rfl, Nat.zero_le _, heap_alloc_new _ _, by simp, by simp [maxLen], rfl, rfl⟩⟩
    have B0 := Hid.mk' (byt_below hb (below0 w))
    have S0 : Hid (([] : List UInt8).length + M.length ≤ 140737488355328) := by show _ ≤ _; simpa using hl
    have Z0 := Hid.mk' (below0 w)
    clear hb hl ha
    go_enter Tryd.func8, Tryd.ntmps8
    go_wp2_with (first | (at_builtin; refine wpList_app2 rfl (.tmp 15) (.tmp 19) rfl 0 (.slice (some ⟨w.heap.size, 0, none⟩) 0 0) [] rfl O0.out a M.length cv M rfl rfl B0.out S0.out (Nat.zero_le _) ?_) | fail)
    intro v w1 own1 gr1 hblk
    have own1' : Hid (OwnB w1 0 v M) := by show OwnB _ _ _ _; simpa using own1
    have b1 : Hid (Below w.heap.size w w1) := Z0.out.grown gr1 Z0.out.size (fun k hk => by simp [Value.ownBlock] at hk; omega)
    clear own1 gr1 hblk O0 B0 S0 Z0
    go_wp2
    go_ret2
    exact ⟨_, rfl, own1'.out, b1.out⟩
  · have eD : dM M e = [] := by simp [dM, he]
    rw [eD]
    clear hb ha eD
    go_enter Tryd.func8, Tryd.ntmps8
    go_wp2
    go_quiet (fail)
    go_wp2
    go_ret2
    exact ⟨_, rfl, ownB_nil _ _, below_drewN (Below.refl _ _) _⟩
theorem ws_zero (w : World) (T : TypeId) : WS (w.alloc (.cells #[.slice none 0 0, .int .i64 0] T)) T w.heap.size none [] 0 := ⟨⟨_, heap_alloc_new _ _, ownB_nil _ _, rfl⟩, by simp⟩
set_option maxRecDepth 100000 in
set_option maxHeartbeats 1000000 in
theorem fixed_any (w : World) (hT : Tabs w) (hw4 : 4 ≤ w.heap.size) :
    Calls Tryd.prog 12 #[] w fun x w' => x = .returned (.bool true) ∧ Below w.heap.size w w' := by
  have hr : V.rightV 1 1 0 ⟨#[]⟩ = true := by decide +kernel
  have b0 : Below w.heap.size w (w.alloc (.cells #[.slice none 0 0, .int .i64 0] 26)) := bel_box w _ 26
  have HW := Hid.mk' (write_1 1 0 ⟨#[]⟩ (by decide) (by decide) (by decide) (by decide) (w.alloc (.cells #[.slice none 0 0, .int .i64 0] 26)) (ws_zero w 26) (hT.below b0) hw4 (fun k h => by cases h) (by decide) hr)
  have hwv : wA [] 0 (wv 1 1 0 ⟨#[]⟩) = [1, 1] := by decide
  rw [hwv] at HW
  have B0 := Hid.mk' b0
  clear hT hr hwv b0
  go_enter Tryd.func12, Tryd.ntmps12
  go_wp2_with fail
  refine HW.out.mono ?_
  rintro x w1 ⟨rfl, a1⟩
  obtain ⟨g1, ws, fr, nw⟩ := a1
  have B1 : Hid (Below w.heap.size w w1) := B0.out.trans ⟨fr.os, fr.tape, fr.output, fr.size, fun k hk => fr.block k (by simp; omega) (by omega) (fun h => by cases h)⟩
  have HD := Hid.mk' (wdone_any w1 ws (by decide))
  clear ws fr nw HW B0
  go_wp2_with fail
  refine HD.out.mono ?_
  rintro x w2 ⟨v, rfl, own, b2⟩
  have own' : OwnB w2 0 v [1, 1] := own
  obtain ⟨bg, bc, rfl, h1, hc, _, _⟩ := own'.open1 (by decide)
  have c0 : w2.cell? ⟨bg, 0, none⟩ = some (.int .u8 1) := hc 0 (by decide)
  have c1 : w2.cell? ⟨bg, 1, none⟩ = some (.int .u8 1) := hc 1 (by decide)
  have B2 := Hid.mk' (B1.out.trans (b2.mono B1.out.size))
  clear own own' hc b2 HD B1
  go_wp2
  go_ret
  exact ⟨rfl, B2.out⟩
end Go.Proofs.YtkinjcblngkeiaaDoor
