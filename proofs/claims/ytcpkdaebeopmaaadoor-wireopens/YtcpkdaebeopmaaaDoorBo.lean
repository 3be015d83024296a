import Derived.Test.YtcpkdaebeopmaaaDoorAl
import Derived.Test.YtcpkdaebeopmaaaDoorTk
import Derived.Test.YtcpkdaebeopmaaaDoorNa
import Derived.Test.YtcpkdaebeopmaaaDoorNb
import Derived.Test.YtcpkdaebeopmaaaDoorNc
import Derived.Test.YtcpkdaebeopmaaaDoorLaws
namespace Go.Proofs.YtcpkdaebeopmaaaDoor
open Go.RowKit
set_option linter.unusedVariables false
set_option linter.unusedSimpArgs false

theorem below_setRowX (B : Nat) (w : World) (g : Nat) (cs : Array Value) (h : B ≤ g) : Below B w (w.setRow g cs) :=
  ⟨rfl, rfl, rfl, by simp, fun k hk => setRow_other w g k cs (by omega)⟩
theorem hb49 : Tryd.prog.built 49 [] = some (bkC (.slice none 0 0)) := by kernel_rfl
theorem hs49 : (Tryd.prog.info? 49).map (·.size) = some 18 := by kernel_rfl
theorem hone (v : Value) (h : v = .slice none 0 0) : (bkC v).all (·.oneCell') = true := by subst h; kernel_rfl
set_option maxRecDepth 100000 in
set_option maxHeartbeats 2000000 in
theorem book_any (q base : Nat) (all : Value) (a0 a1 : Option Addr) (n0 k0 n1 k1 : Nat) (L0 L1 : List UInt8) (w : World) (hl0 : L0.length = n0) (hl1 : L1.length = n1) (hn0 : n0 ≤ 33554432) (hn1 : n1 ≤ 33554432)
    (bn : BkN w q q all [.slice a0 n0 k0, .slice a1 n1 k1]) (hbq : base ≤ q) (ho0 : OwnB w base (.slice a0 n0 k0) L0) (ho1 : OwnB w base (.slice a1 n1 k1) L1)
    (s0 : ∀ k, (Value.slice a0 n0 k0).ownBlock = some k → k < q ∧ (Value.slice a1 n1 k1).ownBlock ≠ some k) (s1 : ∀ k, (Value.slice a1 n1 k1).ownBlock = some k → k < q ∧ (Value.slice a0 n0 k0).ownBlock ≠ some k) :
    Calls Tryd.prog 12 #[.pointer (some ⟨q, 0, none⟩)] w fun e w' => e = .returned (.bool true) ∧ Below base w w' := by
  obtain ⟨hq, rows, hne⟩ := bn
  have zq : q < w.heap.size := (Array.getElem?_eq_some_iff.1 hq).1
  obtain ⟨B, cB, rfl, hBq, d0, d1⟩ : ∃ B cB, all = .slice (some ⟨B, 0, none⟩) 2 cB ∧ q ≤ B ∧ w.cell? ⟨B, 0, none⟩ = some (.slice a0 n0 k0) ∧ w.cell? ⟨B, 1, none⟩ = some (.slice a1 n1 k1) := by
    have hc := fun g hg => World.ownsRow.cells rows (g := g) hg
    rcases rows.2 with ⟨_, hn⟩ | ⟨g, cap, cur, rfl, hbg, _⟩
    · simp at hn
    · exact ⟨g, cap, rfl, hbg, by simpa [Addr.add] using hc g rfl 0 _ rfl, by simpa [Addr.add] using hc g rfl 1 _ rfl⟩
  have c0 : w.cell? ⟨q, 0, none⟩ = some (.slice (some ⟨B, 0, none⟩) 2 cB) := (cell_of_row w q 0 _ _ _ hq).trans rfl
  have H35 : Hid (Calls Tryd.prog 35 #[.pointer (some ⟨q, 0, none⟩)] w fun e w' => e = .returned (.bool true) ∧ Below base w w' ∧ w'.heap[q]? = some (.cells (bkC (.slice (some ⟨B, 0, none⟩) 2 cB)) 49 (0, 0))) :=
    alone35 q B cB base _ a0 a1 n0 k0 n1 k1 L0 L1 w hl0 hl1 hn0 hn1 ⟨c0, d0, d1, hq⟩ ho0 ho1 (fun k h => ⟨by have := (s0 k h).1; omega, by have := (s0 k h).1; omega, (s0 k h).2⟩) (fun k h => ⟨by have := (s1 k h).1; omega, by have := (s1 k h).1; omega, (s1 k h).2⟩) (by omega)
  clear hq rows hne d0 d1 c0 ho0 ho1
  go_enter Tryd.func12, Tryd.ntmps12
  go_wp2_with fail
  refine H35.out.mono ?_
  rintro e w1 ⟨rfl, b1, hq1⟩
  have C36 : Hid (Calls Tryd.prog 36 #[.pointer (some ⟨q, 0, none⟩)] w1 fun e w' => e = .returned (.bool true) ∧ w' = w1) := alone36 q w1 ((cell_of_row w1 q 1 _ _ _ hq1).trans rfl)
  have C37 : Hid (Calls Tryd.prog 37 #[.pointer (some ⟨q, 0, none⟩)] w1 fun e w' => e = .returned (.bool true) ∧ w' = w1) := alone37 q w1 ((cell_of_row w1 q 2 _ _ _ hq1).trans rfl)
  have C38 : Hid (Calls Tryd.prog 38 #[.pointer (some ⟨q, 0, none⟩)] w1 fun e w' => e = .returned (.bool true) ∧ w' = w1) := alone38 q w1 ((cell_of_row w1 q 3 _ _ _ hq1).trans rfl)
  have C39 : Hid (Calls Tryd.prog 39 #[.pointer (some ⟨q, 0, none⟩)] w1 fun e w' => e = .returned (.bool true) ∧ w' = w1) := alone39 q w1 ((cell_of_row w1 q 4 _ _ _ hq1).trans rfl)
  have C40 : Hid (Calls Tryd.prog 40 #[.pointer (some ⟨q, 0, none⟩)] w1 fun e w' => e = .returned (.bool true) ∧ w' = w1) := alone40 q w1 ((cell_of_row w1 q 5 _ _ _ hq1).trans rfl)
  have C41 : Hid (Calls Tryd.prog 41 #[.pointer (some ⟨q, 0, none⟩)] w1 fun e w' => e = .returned (.bool true) ∧ w' = w1) := alone41 q w1 ((cell_of_row w1 q 6 _ _ _ hq1).trans rfl)
  have C42 : Hid (Calls Tryd.prog 42 #[.pointer (some ⟨q, 0, none⟩)] w1 fun e w' => e = .returned (.bool true) ∧ w' = w1) := alone42 q w1 ((cell_of_row w1 q 7 _ _ _ hq1).trans rfl)
  have C43 : Hid (Calls Tryd.prog 43 #[.pointer (some ⟨q, 0, none⟩)] w1 fun e w' => e = .returned (.bool true) ∧ w' = w1) := alone43 q w1 ((cell_of_row w1 q 8 _ _ _ hq1).trans rfl)
  have C44 : Hid (Calls Tryd.prog 44 #[.pointer (some ⟨q, 0, none⟩)] w1 fun e w' => e = .returned (.bool true) ∧ w' = w1) := alone44 q w1 ((cell_of_row w1 q 9 _ _ _ hq1).trans rfl)
  have C45 : Hid (Calls Tryd.prog 45 #[.pointer (some ⟨q, 0, none⟩)] w1 fun e w' => e = .returned (.bool true) ∧ w' = w1) := alone45 q w1 ((cell_of_row w1 q 10 _ _ _ hq1).trans rfl)
  have C46 : Hid (Calls Tryd.prog 46 #[.pointer (some ⟨q, 0, none⟩)] w1 fun e w' => e = .returned (.bool true) ∧ w' = w1) := alone46 q w1 ((cell_of_row w1 q 11 _ _ _ hq1).trans rfl)
  have C47 : Hid (Calls Tryd.prog 47 #[.pointer (some ⟨q, 0, none⟩)] w1 fun e w' => e = .returned (.bool true) ∧ w' = w1) := alone47 q w1 ((cell_of_row w1 q 12 _ _ _ hq1).trans rfl)
  have C48 : Hid (Calls Tryd.prog 48 #[.pointer (some ⟨q, 0, none⟩)] w1 fun e w' => e = .returned (.bool true) ∧ w' = w1) := alone48 q w1 ((cell_of_row w1 q 13 _ _ _ hq1).trans rfl)
  have C49 : Hid (Calls Tryd.prog 49 #[.pointer (some ⟨q, 0, none⟩)] w1 fun e w' => e = .returned (.bool true) ∧ w' = w1) := alone49 q w1 ((cell_of_row w1 q 14 _ _ _ hq1).trans rfl)
  have C50 : Hid (Calls Tryd.prog 50 #[.pointer (some ⟨q, 0, none⟩)] w1 fun e w' => e = .returned (.bool true) ∧ w' = w1) := alone50 q w1 ((cell_of_row w1 q 15 _ _ _ hq1).trans rfl)
  have C51 : Hid (Calls Tryd.prog 51 #[.pointer (some ⟨q, 0, none⟩)] w1 fun e w' => e = .returned (.bool true) ∧ w' = w1) := alone51 q w1 ((cell_of_row w1 q 16 _ _ _ hq1).trans rfl)
  have C52 : Hid (Calls Tryd.prog 52 #[.pointer (some ⟨q, 0, none⟩)] w1 fun e w' => e = .returned (.bool true) ∧ w' = w1) := alone52 q w1 ((cell_of_row w1 q 17 _ _ _ hq1).trans rfl)
  go_wp2_with fail
  refine (C36.out).mono ?_
  rintro e wy ⟨rfl, hwy⟩
  subst hwy
  go_wp2_with fail
  refine (C37.out).mono ?_
  rintro e wy ⟨rfl, hwy⟩
  subst hwy
  go_wp2_with fail
  refine (C38.out).mono ?_
  rintro e wy ⟨rfl, hwy⟩
  subst hwy
  go_wp2_with fail
  refine (C39.out).mono ?_
  rintro e wy ⟨rfl, hwy⟩
  subst hwy
  go_wp2_with fail
  refine (C40.out).mono ?_
  rintro e wy ⟨rfl, hwy⟩
  subst hwy
  go_wp2_with fail
  refine (C41.out).mono ?_
  rintro e wy ⟨rfl, hwy⟩
  subst hwy
  go_wp2_with fail
  refine (C42.out).mono ?_
  rintro e wy ⟨rfl, hwy⟩
  subst hwy
  go_wp2_with fail
  refine (C43.out).mono ?_
  rintro e wy ⟨rfl, hwy⟩
  subst hwy
  go_wp2_with fail
  refine (C44.out).mono ?_
  rintro e wy ⟨rfl, hwy⟩
  subst hwy
  go_wp2_with fail
  refine (C45.out).mono ?_
  rintro e wy ⟨rfl, hwy⟩
  subst hwy
  go_wp2_with fail
  refine (C46.out).mono ?_
  rintro e wy ⟨rfl, hwy⟩
  subst hwy
  go_wp2_with fail
  refine (C47.out).mono ?_
  rintro e wy ⟨rfl, hwy⟩
  subst hwy
  go_wp2_with fail
  refine (C48.out).mono ?_
  rintro e wy ⟨rfl, hwy⟩
  subst hwy
  go_wp2_with fail
  refine (C49.out).mono ?_
  rintro e wy ⟨rfl, hwy⟩
  subst hwy
  go_wp2_with fail
  refine (C50.out).mono ?_
  rintro e wy ⟨rfl, hwy⟩
  subst hwy
  go_wp2_with fail
  refine (C51.out).mono ?_
  rintro e wy ⟨rfl, hwy⟩
  subst hwy
  go_wp2_with fail
  refine (C52.out).mono ?_
  rintro e wy ⟨rfl, hwy⟩
  subst hwy
  clear H35 C36 C37 C38 C39 C40 C41 C42 C43 C44 C45 C46 C47 C48 C49 C50 C51 C52
  go_wp2_with (first | (refine wpList_build_row rfl 49 rfl (bkC (.slice none 0 0)) hb49 ?_) | (refine wpList_store_row rfl 49 (.tmp 76) (.tmp 75) rfl q (bkC (.slice none 0 0)) rfl rfl 49 (bkC (.slice (some ⟨B, 0, none⟩) 2 cB)) hq1 (hs49.trans rfl) rfl (hone _ rfl) ?_) | fail)
  go_ret
  exact ⟨rfl, b1.trans (below_setRowX _ _ _ _ hbq)⟩
end Go.Proofs.YtcpkdaebeopmaaaDoor
