import Derived.Test.YtcpkdaebeopmaaaDoorGx
import Derived.Test.YtcpkdaebeopmaaaDoorVa
import Derived.Test.YtcpkdaebeopmaaaDoorFl
namespace Go.Proofs.YtcpkdaebeopmaaaDoor
open Go.RowKit
set_option linter.unusedVariables false
set_option linter.unusedSimpArgs false

theorem uint_at (q base : Nat) (L : List UInt8) (v : Nat) (vv : Int) (R : List UInt8) (hR : vint v = R) (hvv : vv = (v : Int)) (hv : v < 18446744073709551616) (w : World) (hw : WAt w q base L) (hsum : L.length + 64 ≤ 140737488355328) (hbq : base ≤ q) :
    Calls Tryd.prog 15 #[.pointer (some ⟨q, 0, none⟩), .int .u64 vv] w fun e w' => e = .returned (.tuple #[]) ∧ WAt w' q base (L ++ R) ∧ Below base w w' := by
  subst hvv hR
  exact uint_any q base L v hv w hw hsum hbq
theorem vint1 : vint 1 = [1] := vint_lt (by decide)
theorem vint2 : vint 2 = [2] := vint_lt (by decide)
set_option maxRecDepth 100000 in
set_option maxHeartbeats 400000 in
theorem int_m1 (q base : Nat) (L : List UInt8) (w : World) (hw : WAt w q base L) (hsum : L.length + 64 ≤ 140737488355328) (hbq : base ≤ q) :
    Calls Tryd.prog 16 #[.pointer (some ⟨q, 0, none⟩), .int .i64 (-1)] w fun e w' => e = .returned (.tuple #[]) ∧ WAt w' q base (L ++ [1]) ∧ Below base w w' := by
  have H : Hid (Calls Tryd.prog 15 #[.pointer (some ⟨q, 0, none⟩), .int .u64 1] w fun e w' => e = .returned (.tuple #[]) ∧ WAt w' q base (L ++ [1]) ∧ Below base w w') := uint_at q base L 1 1 [1] vint1 rfl (by decide) w hw hsum hbq
  clear hw hsum
  go_enter Tryd.func16, Tryd.ntmps16
  go_wp2_with fail
  refine H.out.mono ?_
  rintro e w1 ⟨rfl, a1, b1⟩
  have A1 : Hid (WAt w1 q base (L ++ [1])) := a1
  clear a1
  go_wp2
  go_end0
  exact ⟨rfl, A1.out, b1⟩
theorem uint_atG (q base g : Nat) (o : Option Obj) (L : List UInt8) (v : Nat) (vv : Int) (R : List UInt8) (hR : vint v = R) (hvv : vv = (v : Int)) (hv : v < 18446744073709551616) (w : World) (hw : WAtG w q base L g o) (hsum : L.length + 64 ≤ 140737488355328) (hbq : base ≤ q) :
    Calls Tryd.prog 15 #[.pointer (some ⟨q, 0, none⟩), .int .u64 vv] w fun e w' => e = .returned (.tuple #[]) ∧ WAtG w' q base (L ++ R) g o ∧ Below base w w' := by
  subst hvv hR
  exact uint_anyG q base g o L v hv w hw hsum hbq
set_option maxRecDepth 100000 in
set_option maxHeartbeats 400000 in
/-- Raw of two bytes that lie in a block of their own. -/
theorem raw_two (q base g cap : Nat) (L M : List UInt8) (C : Array Value) (fr : Nat × Nat) (hM : M.length = 2) (hC : ∀ j, j < 2 → C[j]? = some (.int .u8 (at8 M j))) (w : World) (hw : WAtG w q base L g (some (.cells C 5 fr))) (hsum : L.length + 128 ≤ 140737488355328) (hbq : base ≤ q) :
    Calls Tryd.prog 61 #[.pointer (some ⟨q, 0, none⟩), .slice (some ⟨g, 0, none⟩) 2 cap] w fun e w' => e = .returned (.tuple #[]) ∧ WAt w' q base (L ++ [2] ++ M) ∧ Below base w w' := by
  have H : Hid (Calls Tryd.prog 15 #[.pointer (some ⟨q, 0, none⟩), .int .u64 2] w fun e w' => e = .returned (.tuple #[]) ∧ WAtG w' q base (L ++ [2]) g (some (.cells C 5 fr)) ∧ Below base w w') := uint_atG q base g _ L 2 2 [2] vint2 rfl (by decide) w hw (by omega) hbq
  have HS : Hid (L.length + 128 ≤ 140737488355328) := hsum
  clear hw hsum
  go_enter Tryd.func61, Tryd.ntmps61
  go_wp2_with fail
  refine H.out.mono ?_
  rintro e w1 ⟨rfl, a1, b1⟩
  have H2 : Hid (Calls Tryd.prog 31 #[.pointer (some ⟨q, 0, none⟩), .slice (some ⟨g, 0, none⟩) 2 cap] w1 fun e w' => e = .returned (.tuple #[]) ∧ WAtG w' q base (L ++ [2] ++ M) g (some (.cells C 5 fr)) ∧ Below base w1 w') :=
    add_anyG q base g _ (L ++ [2]) M (some ⟨g, 0, none⟩) 2 cap w1 a1 hM (.inr ⟨g, 0, rfl, fun j hj => by rw [Nat.zero_add]; exact (cell_of_row _ g j _ _ _ a1.2.2.2).trans (hC j (by omega))⟩) (by have := HS.out; rw [List.length_append, hM]; simp; omega) hbq
  clear a1 H
  go_wp2_with fail
  refine H2.out.mono ?_
  rintro e w2 ⟨rfl, a2, b2⟩
  have A2 : Hid (WAt w2 q base (L ++ [2] ++ M)) := a2.at
  have B2 := b1.trans b2
  clear a2 b1 b2 H2
  go_wp2
  go_end0
  exact ⟨rfl, A2.out, B2⟩
theorem conv_ab (w : World) : ∃ cap C fr, (convert 9 22 (.string { data := #[97, 98] })).run Tryd.prog w = .ok (.slice (some ⟨w.heap.size, 0, none⟩) 2 cap) (w.drew.alloc (.cells C 5 fr)) ∧ ∀ j, j < 2 → C[j]? = some (.int .u8 (at8 [97, 98] j)) := by
  refine ⟨_, _, _, run_bytes_of_string w 9 22 5 { data := #[97, 98] } Tryd.underlying9 Tryd.underlying22 Tryd.underlying5, fun j hj => ?_⟩
  unfold bytesRow
  obtain rfl | rfl : j = 0 ∨ j = 1 := by omega
  · rw [Array.getElem?_append_left (by simp)]
    simp [at8]
  · rw [Array.getElem?_append_left (by simp)]
    simp [at8]
set_option maxRecDepth 100000 in
set_option maxHeartbeats 400000 in
theorem text_ab (q base : Nat) (L : List UInt8) (w : World) (hw : WAt w q base L) (hsum : L.length + 128 ≤ 140737488355328) (hbq : base ≤ q) :
    Calls Tryd.prog 17 #[.pointer (some ⟨q, 0, none⟩), .string { data := #[97, 98] }] w fun e w' => e = .returned (.tuple #[]) ∧ WAt w' q base (L ++ [2] ++ [97, 98]) ∧ Below base w w' := by
  obtain ⟨cap, C, fr, hcv, hC⟩ := conv_ab w
  have zq := hw.lt
  have hw' : WAt w.drew q base L := hw
  have bd : Below base w (w.drew.alloc (.cells C 5 fr)) := (below_drewN (Below.refl _ _) 1).alloc (by show base ≤ w.heap.size; omega) _
  have H : Hid (Calls Tryd.prog 61 #[.pointer (some ⟨q, 0, none⟩), .slice (some ⟨w.heap.size, 0, none⟩) 2 cap] (w.drew.alloc (.cells C 5 fr)) fun e w' => e = .returned (.tuple #[]) ∧ WAt w' q base (L ++ [2] ++ [97, 98]) ∧ Below base w w') :=
    (raw_two q base w.drew.heap.size cap L [97, 98] C fr rfl hC (w.drew.alloc (.cells C 5 fr)) (hw'.beside _) hsum hbq).mono fun e w' ⟨h1, h2, h3⟩ => ⟨h1, h2, bd.trans h3⟩
  clear hw hw' bd hC hsum
  go_enter Tryd.func17, Tryd.ntmps17
  go_wp2_with (go_at_call 59; refine (valid_ab _).mono ?_; rintro e w' ⟨rfl, hw'⟩; subst hw')
  refine H.out.mono ?_
  rintro e w1 ⟨rfl, a1, b1⟩
  have A1 : Hid (WAt w1 q base (L ++ [2] ++ [97, 98])) := a1
  clear a1 H hcv
  go_wp2
  go_end0
  exact ⟨rfl, A1.out, b1⟩
set_option maxRecDepth 100000 in
set_option maxHeartbeats 400000 in
theorem float_15 (q base : Nat) (L : List UInt8) (w : World) (hw : WAt w q base L) (hsum : L.length + 128 ≤ 140737488355328) (hbq : base ≤ q) :
    Calls Tryd.prog 18 #[.pointer (some ⟨q, 0, none⟩), .float .f64 4609434218613702656] w fun e w' => e = .returned (.tuple #[]) ∧ WAt w' q base (L ++ [63, 248, 0, 0] ++ [0, 0, 0, 0]) ∧ Below base w w' := by
  have HS : Hid (L.length + 128 ≤ 140737488355328) := hsum
  have H : Hid (Calls Tryd.prog 29 #[.pointer (some ⟨q, 0, none⟩), .int .u32 1073217536] w fun e w' => e = .returned (.tuple #[]) ∧ WAt w' q base (L ++ [63, 248, 0, 0]) ∧ Below base w w') := fix32_any q base L 1073217536 1073217536 rfl w hw (by omega) hbq
  clear hsum hw
  go_enter Tryd.func18, Tryd.ntmps18
  go_wp2_with (go_at_call 62; refine (finite_15 _).mono ?_; rintro e w' ⟨rfl, hw'⟩; subst hw')
  refine H.out.mono ?_
  rintro e w1 ⟨rfl, a1, b1⟩
  have H2 : Hid (Calls Tryd.prog 29 #[.pointer (some ⟨q, 0, none⟩), .int .u32 0] w1 fun e w' => e = .returned (.tuple #[]) ∧ WAt w' q base (L ++ [63, 248, 0, 0] ++ [0, 0, 0, 0]) ∧ Below base w1 w') := fix32_any q base (L ++ [63, 248, 0, 0]) 0 0 rfl w1 a1 (by have := HS.out; rw [List.length_append]; simp; omega) hbq
  clear a1 H
  go_wp2_with fail
  refine H2.out.mono ?_
  rintro e w2 ⟨rfl, a2, b2⟩
  have A2 : Hid (WAt w2 q base (L ++ [63, 248, 0, 0] ++ [0, 0, 0, 0])) := a2
  have B2 := b1.trans b2
  clear a2 b1 b2 H2
  go_wp2
  go_end0
  exact ⟨rfl, A2.out, B2⟩
set_option maxRecDepth 100000 in
set_option maxHeartbeats 400000 in
theorem len_any (q base : Nat) (L : List UInt8) (n : Nat) (hL : L.length = n) (w : World) (hw : WAt w q base L) :
    Calls Tryd.prog 20 #[.pointer (some ⟨q, 0, none⟩)] w fun e w' => e = .returned (.int .i64 (n : Int)) ∧ w' = w := by
  obtain ⟨v, hq, own, hne⟩ := hw
  obtain ⟨av, cv, rfl, hcv, byv, hav⟩ := own.open
  have c0 := (cell_of_row w q 0 _ _ _ hq).trans (show (#[.slice av L.length cv, .int .i64 0] : Array Value)[0]? = some (.slice av L.length cv) from rfl)
  rw [hL] at c0
  clear hq own hne byv hav hcv
  go_enter Tryd.func20, Tryd.ntmps20
  go_wp2
  go_ret
  exact ⟨rfl, rfl⟩
set_option maxRecDepth 100000 in
set_option maxHeartbeats 400000 in
theorem done_any (q base : Nat) (L : List UInt8) (w : World) (hw : WAt w q base L) (h0 : 0 < L.length) (hn : L.length ≤ 140737488355328) :
    Calls Tryd.prog 19 #[.pointer (some ⟨q, 0, none⟩)] w fun e w' => ∃ v, e = .returned (.tuple #[v, .int .i64 0]) ∧ OwnB w' w.heap.size v L ∧ Below w.heap.size w w' := by
  obtain ⟨v, hq, own, hne⟩ := hw
  obtain ⟨g, cv, rfl, hcv, hcl, hg1, hg2⟩ := own.open1 h0
  have c0 := (cell_of_row w q 0 _ _ _ hq).trans (show (#[.slice (some ⟨g, 0, none⟩) L.length cv, .int .i64 0] : Array Value)[0]? = some (.slice (some ⟨g, 0, none⟩) L.length cv) from rfl)
  have c1 := (cell_of_row w q 1 _ _ _ hq).trans (show (#[.slice (some ⟨g, 0, none⟩) L.length cv, .int .i64 0] : Array Value)[1]? = some (.int .i64 0) from rfl)
  have H : Hid (Calls Tryd.prog 55 #[.slice (some ⟨g, 0, none⟩) L.length cv] w fun e w' => ∃ v, e = .returned v ∧ OwnB w' w.heap.size v L ∧ Below w.heap.size w w') := clone_any g 0 L.length cv L w rfl hn (.inr ⟨g, 0, rfl, fun j hj => by rw [Nat.zero_add]; exact hcl j hj⟩)
  clear hq own hne hcl hg1 hg2 hcv
  go_enter Tryd.func19, Tryd.ntmps19
  go_wp2_with fail
  refine H.out.mono ?_
  rintro e w1 ⟨v1, rfl, o1, b1⟩
  have O1 : Hid (OwnB w1 w.heap.size v1 L) := o1
  clear o1
  go_wp2
  go_ret2
  exact ⟨v1, rfl, O1.out, b1⟩
end Go.Proofs.YtcpkdaebeopmaaaDoor
