import Derived.Test.YtdnocpngdepbgaaGreatDoorBkt
namespace Go.Proofs.YtdnocpngdepbgaaGreatDoor.K
open Go.RowKit
set_option linter.unusedVariables false
set_option linter.unusedSimpArgs false

open Classical in
/-- Lists in blocks of their own, told apart by tags. -/
noncomputable def tgOf (N : Nat) (V : Nat → Lst) : Nat → Nat := fun b => if h : ∃ i, i < N ∧ (V i).v.ownBlock = some b then Classical.choose h + 1 else 0
theorem tgOf_own {N : Nat} {V : Nat → Lst} (sep : ∀ i j, i < N → j < N → ∀ b, (V i).v.ownBlock = some b → (V j).v.ownBlock = some b → i = j) (i : Nat) (hi : i < N) : Tg (tgOf N V) (V i).v (i + 1) := fun b e => by
  have h : ∃ i, i < N ∧ (V i).v.ownBlock = some b := ⟨i, hi, e⟩
  unfold tgOf
  rw [dif_pos h]
  have c := Classical.choose_spec h
  rw [sep _ _ c.1 hi b c.2 e]
theorem tgOf_no {N : Nat} {V : Nat → Lst} (b : Nat) (h : ∀ i, i < N → (V i).v.ownBlock ≠ some b) : tgOf N V b = 0 := by
  unfold tgOf
  rw [dif_neg (fun ⟨i, hi, e⟩ => h i hi e)]
set_option maxRecDepth 100000 in
set_option maxHeartbeats 2000000 in
/-- Book.Alone of N lists of bytes, and no other list. -/
theorem bookB_any (q base N : Nat) (all : Value) (V : Nat → Lst) (L : Nat → List UInt8) (w : World) (hN1 : 1 ≤ N) (hN : N ≤ 4398046510976) (hn : ∀ i, i < N → (V i).n ≤ 140737488351232)
    (bn : BkN w q q all ((List.range N).map fun i => (V i).v)) (hbq : base ≤ q) (ow : ∀ i, i < N → OwnB w base (V i).v (L i) ∧ (L i).length = (V i).n)
    (sep : ∀ i j, i < N → j < N → ∀ b, (V i).v.ownBlock = some b → (V j).v.ownBlock = some b → i = j) (lq : ∀ i, i < N → ∀ b, (V i).v.ownBlock = some b → b < q) :
    Calls Tryz.prog 16 #[.pointer (some ⟨q, 0, none⟩)] w fun e w' => e = .returned (.bool true) ∧ Below base w w' ∧ ∀ k, k < w.heap.size → k ≠ q → (∀ i, i < N → (V i).v.ownBlock ≠ some k) → w'.heap[k]? = w.heap[k]? := by
  obtain ⟨hq, rows, hne⟩ := bn
  have zq : q < w.heap.size := (Array.getElem?_eq_some_iff.1 hq).1
  have hlen : ((List.range N).map fun i => (V i).v).length = N := by simp
  rw [hlen] at rows
  obtain ⟨B, cB, rfl, hBq, hBl, hc⟩ : ∃ B cB, all = .slice (some ⟨B, 0, none⟩) N cB ∧ q ≤ B ∧ B < w.heap.size ∧ ∀ i, i < N → w.cell? ⟨B, i, none⟩ = some (V i).v := by
    have hc := fun g hg => World.ownsRow.cells rows (g := g) hg
    rcases rows.2 with ⟨_, hn0⟩ | ⟨g, cap, cur, rfl, hbg, hg, _⟩
    · omega
    · refine ⟨g, cap, rfl, hbg, (Array.getElem?_eq_some_iff.1 hg).1, fun i hi => ?_⟩
      have := hc g rfl i (V i).v (by rw [List.getElem?_map, List.getElem?_range hi]; rfl)
      rw [Addr.add_mid, Nat.zero_add] at this
      exact this
  have c0 : w.cell? ⟨q, 0, none⟩ = some (.slice (some ⟨B, 0, none⟩) N cB) := (cell_of_row w q 0 _ _ _ hq).trans rfl
  have H35 : Hid (Calls Tryz.prog 57 #[.pointer (some ⟨q, 0, none⟩)] w fun e w' => e = .returned (.bool true) ∧ Below base w w' ∧ w'.heap[q]? = some (.cells (bkC (.slice (some ⟨B, 0, none⟩) N cB)) 66 (0, 0)) ∧ ∀ k, k < w.heap.size → (∀ i, i < N → (V i).v.ownBlock ≠ some k) → w'.heap[k]? = w.heap[k]?) :=
    (aloneBytes_any q B cB base N _ V L (tgOf N V) w hN1 hN hn ⟨⟨c0, hc, hq, hBl⟩, tgOf_no q (fun i hi e => by have := lq i hi q e; omega), tgOf_no B (fun i hi e => by have := lq i hi B e; omega), fun i hi => ⟨(ow i hi).1, tgOf_own sep i hi, (ow i hi).2⟩, Below.refl _ _, fun _ _ _ => rfl⟩ (by omega)).mono fun e w' h => ⟨h.1, h.2.1, h.2.2.1, fun k hk hi => h.2.2.2 k hk (tgOf_no k hi)⟩
  clear hq rows hne hc c0 ow sep lq hlen
  go_enter Tryz.func16, Tryz.ntmps16
  go_wp2_with fail
  refine H35.out.mono ?_
  rintro e w1 ⟨rfl, b1, hq1, fr1⟩
  have FR := Hid.mk' fr1
  clear fr1
  have CHashes : Hid (Calls Tryz.prog 58 #[.pointer (some ⟨q, 0, none⟩)] w1 fun e w' => e = .returned (.bool true) ∧ w' = w1) := aloneHashes q w1 ((cell_of_row w1 q 1 _ _ _ hq1).trans rfl)
  have CIds : Hid (Calls Tryz.prog 59 #[.pointer (some ⟨q, 0, none⟩)] w1 fun e w' => e = .returned (.bool true) ∧ w' = w1) := aloneIds q w1 ((cell_of_row w1 q 2 _ _ _ hq1).trans rfl)
  have CTexts : Hid (Calls Tryz.prog 60 #[.pointer (some ⟨q, 0, none⟩)] w1 fun e w' => e = .returned (.bool true) ∧ w' = w1) := aloneTexts q w1 ((cell_of_row w1 q 3 _ _ _ hq1).trans rfl)
  have CInts : Hid (Calls Tryz.prog 61 #[.pointer (some ⟨q, 0, none⟩)] w1 fun e w' => e = .returned (.bool true) ∧ w' = w1) := aloneInts q w1 ((cell_of_row w1 q 4 _ _ _ hq1).trans rfl)
  have CEntries : Hid (Calls Tryz.prog 62 #[.pointer (some ⟨q, 0, none⟩)] w1 fun e w' => e = .returned (.bool true) ∧ w' = w1) := aloneEntries q w1 ((cell_of_row w1 q 5 _ _ _ hq1).trans rfl)
  have CEdits : Hid (Calls Tryz.prog 63 #[.pointer (some ⟨q, 0, none⟩)] w1 fun e w' => e = .returned (.bool true) ∧ w' = w1) := aloneEdits q w1 ((cell_of_row w1 q 6 _ _ _ hq1).trans rfl)
  have COps : Hid (Calls Tryz.prog 64 #[.pointer (some ⟨q, 0, none⟩)] w1 fun e w' => e = .returned (.bool true) ∧ w' = w1) := aloneOps q w1 ((cell_of_row w1 q 7 _ _ _ hq1).trans rfl)
  have CSpans : Hid (Calls Tryz.prog 65 #[.pointer (some ⟨q, 0, none⟩)] w1 fun e w' => e = .returned (.bool true) ∧ w' = w1) := aloneSpans q w1 ((cell_of_row w1 q 8 _ _ _ hq1).trans rfl)
  have CSteps : Hid (Calls Tryz.prog 66 #[.pointer (some ⟨q, 0, none⟩)] w1 fun e w' => e = .returned (.bool true) ∧ w' = w1) := aloneSteps q w1 ((cell_of_row w1 q 9 _ _ _ hq1).trans rfl)
  have CCredits : Hid (Calls Tryz.prog 67 #[.pointer (some ⟨q, 0, none⟩)] w1 fun e w' => e = .returned (.bool true) ∧ w' = w1) := aloneCredits q w1 ((cell_of_row w1 q 10 _ _ _ hq1).trans rfl)
  have CRights : Hid (Calls Tryz.prog 68 #[.pointer (some ⟨q, 0, none⟩)] w1 fun e w' => e = .returned (.bool true) ∧ w' = w1) := aloneRights q w1 ((cell_of_row w1 q 11 _ _ _ hq1).trans rfl)
  have CUpdates : Hid (Calls Tryz.prog 69 #[.pointer (some ⟨q, 0, none⟩)] w1 fun e w' => e = .returned (.bool true) ∧ w' = w1) := aloneUpdates q w1 ((cell_of_row w1 q 12 _ _ _ hq1).trans rfl)
  have CNodes : Hid (Calls Tryz.prog 70 #[.pointer (some ⟨q, 0, none⟩)] w1 fun e w' => e = .returned (.bool true) ∧ w' = w1) := aloneNodes q w1 ((cell_of_row w1 q 13 _ _ _ hq1).trans rfl)
  have CPatches : Hid (Calls Tryz.prog 71 #[.pointer (some ⟨q, 0, none⟩)] w1 fun e w' => e = .returned (.bool true) ∧ w' = w1) := alonePatches q w1 ((cell_of_row w1 q 14 _ _ _ hq1).trans rfl)
  have CImages : Hid (Calls Tryz.prog 72 #[.pointer (some ⟨q, 0, none⟩)] w1 fun e w' => e = .returned (.bool true) ∧ w' = w1) := aloneImages q w1 ((cell_of_row w1 q 15 _ _ _ hq1).trans rfl)
  have CForks : Hid (Calls Tryz.prog 73 #[.pointer (some ⟨q, 0, none⟩)] w1 fun e w' => e = .returned (.bool true) ∧ w' = w1) := aloneForks q w1 ((cell_of_row w1 q 16 _ _ _ hq1).trans rfl)
  have CRows : Hid (Calls Tryz.prog 74 #[.pointer (some ⟨q, 0, none⟩)] w1 fun e w' => e = .returned (.bool true) ∧ w' = w1) := aloneRows q w1 ((cell_of_row w1 q 17 _ _ _ hq1).trans rfl)
  go_wp2_with fail
  refine (CHashes.out).mono ?_
  rintro e wy ⟨rfl, hwy⟩
  subst hwy
  go_wp2_with fail
  refine (CIds.out).mono ?_
  rintro e wy ⟨rfl, hwy⟩
  subst hwy
  go_wp2_with fail
  refine (CTexts.out).mono ?_
  rintro e wy ⟨rfl, hwy⟩
  subst hwy
  go_wp2_with fail
  refine (CInts.out).mono ?_
  rintro e wy ⟨rfl, hwy⟩
  subst hwy
  go_wp2_with fail
  refine (CEntries.out).mono ?_
  rintro e wy ⟨rfl, hwy⟩
  subst hwy
  go_wp2_with fail
  refine (CEdits.out).mono ?_
  rintro e wy ⟨rfl, hwy⟩
  subst hwy
  go_wp2_with fail
  refine (COps.out).mono ?_
  rintro e wy ⟨rfl, hwy⟩
  subst hwy
  go_wp2_with fail
  refine (CSpans.out).mono ?_
  rintro e wy ⟨rfl, hwy⟩
  subst hwy
  go_wp2_with fail
  refine (CSteps.out).mono ?_
  rintro e wy ⟨rfl, hwy⟩
  subst hwy
  go_wp2_with fail
  refine (CCredits.out).mono ?_
  rintro e wy ⟨rfl, hwy⟩
  subst hwy
  go_wp2_with fail
  refine (CRights.out).mono ?_
  rintro e wy ⟨rfl, hwy⟩
  subst hwy
  go_wp2_with fail
  refine (CUpdates.out).mono ?_
  rintro e wy ⟨rfl, hwy⟩
  subst hwy
  go_wp2_with fail
  refine (CNodes.out).mono ?_
  rintro e wy ⟨rfl, hwy⟩
  subst hwy
  go_wp2_with fail
  refine (CPatches.out).mono ?_
  rintro e wy ⟨rfl, hwy⟩
  subst hwy
  go_wp2_with fail
  refine (CImages.out).mono ?_
  rintro e wy ⟨rfl, hwy⟩
  subst hwy
  go_wp2_with fail
  refine (CForks.out).mono ?_
  rintro e wy ⟨rfl, hwy⟩
  subst hwy
  go_wp2_with fail
  refine (CRows.out).mono ?_
  rintro e wy ⟨rfl, hwy⟩
  subst hwy
  clear H35 CHashes CIds CTexts CInts CEntries CEdits COps CSpans CSteps CCredits CRights CUpdates CNodes CPatches CImages CForks CRows
  go_wp2_with (first | (refine wpList_build_row rfl 66 rfl (bkC (.slice none 0 0)) hbBk ?_) | (refine wpList_store_row rfl 66 (.tmp 76) (.tmp 75) rfl q (bkC (.slice none 0 0)) rfl rfl 66 (bkC (.slice (some ⟨B, 0, none⟩) N cB)) hq1 (hsBk.trans rfl) rfl (hone _ rfl) ?_) | fail)
  go_ret
  exact ⟨rfl, b1.trans (below_setRowX _ _ _ _ hbq), fun k hk hkq hi => (setRow_other _ _ _ _ hkq).trans (FR.out k hk hi)⟩
end Go.Proofs.YtdnocpngdepbgaaGreatDoor.K
