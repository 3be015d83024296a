import Derived.Test.YtcpkdaebeopmaaaDoorWl
namespace Go.Proofs.YtcpkdaebeopmaaaDoor
open Go.RowKit
set_option linter.unusedVariables false
set_option linter.unusedSimpArgs false

def BB : List UInt8 := [172, 2, 1, 2, 97, 98, 63, 248, 0, 0, 0, 0, 0, 0]
def RB (w : World) (r g cap : Nat) (k : Int) : Prop :=
  w.heap[r]? = some (.cells #[.slice (some ⟨g, 0, none⟩) 14 cap, .int .i64 k, .int .i64 0, .int .i64 0] 97 (0, 0)) ∧ r ≠ g ∧ 14 ≤ cap ∧ ∀ j, j < 14 → w.cell? ⟨g, j, none⟩ = some (.int .u8 (at8 BB j))
theorem RB.drew {w : World} {r g cap : Nat} {k : Int} (h : RB w r g cap k) (m : Nat) : RB (w.drewN m) r g cap k := h
theorem RB.set {w : World} {r g cap : Nat} {k : Int} (h : RB w r g cap k) (k' : Int) : RB (w.setCell ⟨r, 1, none⟩ (.int .i64 k')) r g cap k' := by
  obtain ⟨h1, h2, h3, h4⟩ := h
  refine ⟨by rw [heap_setCell_same w r 1 _ 97 _ h1]; rfl, h2, h3, fun j hj => ?_⟩
  rw [World.cell?_setCell_other _ _ _ _ (by simp [h2.symm])]
  exact h4 j hj
theorem RB.c0 {w : World} {r g cap : Nat} {k : Int} (h : RB w r g cap k) : w.cell? ⟨r, 0, none⟩ = some (.slice (some ⟨g, 0, none⟩) 14 cap) := (cell_of_row w r 0 _ _ _ h.1).trans rfl
theorem RB.c1 {w : World} {r g cap : Nat} {k : Int} (h : RB w r g cap k) : w.cell? ⟨r, 1, none⟩ = some (.int .i64 k) := (cell_of_row w r 1 _ _ _ h.1).trans rfl
theorem RB.c2 {w : World} {r g cap : Nat} {k : Int} (h : RB w r g cap k) : w.cell? ⟨r, 2, none⟩ = some (.int .i64 0) := (cell_of_row w r 2 _ _ _ h.1).trans rfl
theorem RB.c3 {w : World} {r g cap : Nat} {k : Int} (h : RB w r g cap k) : w.cell? ⟨r, 3, none⟩ = some (.int .i64 0) := (cell_of_row w r 3 _ _ _ h.1).trans rfl
theorem RB.f1 {w : World} {r g cap : Nat} {k : Int} (h : RB w r g cap k) : w.frozen? ⟨r, 1, none⟩ = false := frozen_of_row w r 1 _ _ h.1

set_option maxRecDepth 100000 in
set_option maxHeartbeats 400000 in
theorem cleft_any (r g cap : Nat) (k : Int) (hk0 : 0 ≤ k) (hk : k ≤ 14) (w : World) (h : RB w r g cap k) :
    Calls Tryd.prog 81 #[.pointer (some ⟨r, 0, none⟩)] w fun e w' => e = .returned (.int .i64 (14 - k)) ∧ ∃ m, w' = w.drewN m := by
  have c0 := h.c0
  have c1 := h.c1
  clear h
  go_enter Tryd.func81, Tryd.ntmps81
  go_wp2
  go_quiet (fail)
  go_wp2
  go_ret
  exact ⟨rfl, _, rfl⟩
set_option maxRecDepth 100000 in
set_option maxHeartbeats 400000 in
theorem cat_any (r g cap : Nat) (k : Int) (w : World) (h : RB w r g cap k) :
    Calls Tryd.prog 74 #[.pointer (some ⟨r, 0, none⟩)] w fun e w' => e = .returned (.int .i64 k) ∧ w' = w := by
  have c1 := h.c1
  clear h
  go_enter Tryd.func74, Tryd.ntmps74
  go_wp2
  go_ret
  exact ⟨rfl, rfl⟩
set_option maxRecDepth 100000 in
set_option maxHeartbeats 400000 in
theorem keep_ok (r g cap : Nat) (k p : Int) (w : World) (h : RB w r g cap k) :
    Calls Tryd.prog 66 #[.pointer (some ⟨r, 0, none⟩), .int .i64 0, .int .i64 p] w fun e w' => e = .returned (.bool true) ∧ w' = w := by
  have c2 := h.c2
  clear h
  go_enter Tryd.func66, Tryd.ntmps66
  go_wp2
  go_ret
  exact ⟨rfl, rfl⟩
set_option maxRecDepth 100000 in
set_option maxHeartbeats 400000 in
theorem stopped_any (r g cap : Nat) (k : Int) (w : World) (h : RB w r g cap k) :
    Calls Tryd.prog 64 #[.pointer (some ⟨r, 0, none⟩)] w fun e w' => e = .returned (.bool false) ∧ w' = w := by
  have c2 := h.c2
  clear h
  go_enter Tryd.func64, Tryd.ntmps64
  go_wp2
  go_ret
  exact ⟨rfl, rfl⟩
set_option maxRecDepth 100000 in
set_option maxHeartbeats 400000 in
theorem fault_any (r g cap : Nat) (k : Int) (w : World) (h : RB w r g cap k) :
    Calls Tryd.prog 72 #[.pointer (some ⟨r, 0, none⟩)] w fun e w' => e = .returned (.tuple #[.int .i64 0, .int .i64 0]) ∧ ∃ m, w' = w.drewN m := by
  have c2 := h.c2
  have c3 := h.c3
  clear h
  go_enter Tryd.func72, Tryd.ntmps72
  go_wp2
  go_quiet (fail)
  go_wp2
  go_ret2
  exact ⟨rfl, _, rfl⟩
set_option maxRecDepth 100000 in
set_option maxHeartbeats 400000 in
theorem rleft_any (r g cap : Nat) (k : Int) (hk0 : 0 ≤ k) (hk : k ≤ 14) (w : World) (h : RB w r g cap k) :
    Calls Tryd.prog 73 #[.pointer (some ⟨r, 0, none⟩)] w fun e w' => e = .returned (.int .i64 (14 - k)) ∧ ∃ m, w' = w.drewN m := by
  have H : Hid (Calls Tryd.prog 81 #[.pointer (some ⟨r, 0, none⟩)] w fun e w' => e = .returned (.int .i64 (14 - k)) ∧ ∃ m, w' = w.drewN m) := cleft_any r g cap k hk0 hk w h
  clear h
  go_enter Tryd.func73, Tryd.ntmps73
  go_wp2_with fail
  refine H.out.mono ?_
  rintro e w1 ⟨rfl, m, rfl⟩
  go_wp2
  go_ret
  exact ⟨rfl, _, rfl⟩
set_option maxRecDepth 100000 in
set_option maxHeartbeats 400000 in
theorem rat_any (r g cap : Nat) (k : Int) (w : World) (h : RB w r g cap k) :
    Calls Tryd.prog 27 #[.pointer (some ⟨r, 0, none⟩)] w fun e w' => e = .returned (.int .i64 k) ∧ w' = w := by
  have H : Hid (Calls Tryd.prog 74 #[.pointer (some ⟨r, 0, none⟩)] w fun e w' => e = .returned (.int .i64 k) ∧ w' = w) := cat_any r g cap k w h
  clear h
  go_enter Tryd.func27, Tryd.ntmps27
  go_wp2_with fail
  refine H.out.mono ?_
  rintro e w1 ⟨rfl, hw1⟩
  subst hw1
  go_wp2
  go_ret
  exact ⟨rfl, rfl⟩
set_option maxRecDepth 100000 in
set_option maxHeartbeats 400000 in
theorem rdone_14 (r g cap : Nat) (w : World) (h : RB w r g cap 14) :
    Calls Tryd.prog 26 #[.pointer (some ⟨r, 0, none⟩)] w fun e w' => e = .returned (.tuple #[.int .i64 0, .int .i64 0]) ∧ ∃ m, w' = w.drewN m := by
  go_enter Tryd.func26, Tryd.ntmps26
  go_wp2_with fail
  refine (fault_any r g cap 14 w h).mono ?_
  rintro e w1 ⟨rfl, m, rfl⟩
  have H : Hid (Calls Tryd.prog 73 #[.pointer (some ⟨r, 0, none⟩)] (w.drewN m) fun e w' => e = .returned (.int .i64 (14 - 14)) ∧ ∃ m', w' = w.drewN m') := (rleft_any r g cap 14 (by decide) (by decide) (w.drewN m) (h.drew m)).mono fun e w' ⟨h1, m', h2⟩ => ⟨h1, m + m', by rw [h2, World.drewN_drewN]⟩
  clear h
  go_wp2_with fail
  refine H.out.mono ?_
  rintro e w2 ⟨rfl, m2, rfl⟩
  go_wp2
  go_ret2
  exact ⟨rfl, _, rfl⟩
end Go.Proofs.YtcpkdaebeopmaaaDoor
