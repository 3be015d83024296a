import Derived.Test.YtdnocpngdepbgaaGreatDoorBk2
namespace Go.Proofs.YtdnocpngdepbgaaGreatDoor
open Go.RowKit
set_option linter.unusedVariables false
set_option linter.unusedSimpArgs false

/-- Lists of both kinds, each in a block of its own. -/
structure LI (w : World) (z k : Nat) (VB : Nat → K.Lst) (VH : Nat → KH.Lst) (LB : Nat → List UInt8) (LH : Nat → List (List UInt8)) : Prop where
  ob : ∀ i, i < k → K.OwnB w z (VB i).v (LB i) ∧ (LB i).length = (VB i).n ∧ (VB i).n ≤ 140737488351232
  oh : ∀ i, i < k → OwnH w z (VH i).v (LH i) ∧ (LH i).length = (VH i).n ∧ (VH i).n ≤ 4398046510976
  sb : ∀ i j, i < k → j < k → ∀ b, (VB i).v.ownBlock = some b → (VB j).v.ownBlock = some b → i = j
  sh : ∀ i j, i < k → j < k → ∀ b, (VH i).v.ownBlock = some b → (VH j).v.ownBlock = some b → i = j
theorem LI.keep {w w' : World} {z k : Nat} {VB : Nat → K.Lst} {VH : Nat → KH.Lst} {LB : Nat → List UInt8} {LH : Nat → List (List UInt8)} (h : LI w z k VB VH LB LH) (hb : ∀ i, i < k → ∀ b, (VB i).v.ownBlock = some b → w'.heap[b]? = w.heap[b]?) (hh : ∀ i, i < k → ∀ b, (VH i).v.ownBlock = some b → w'.heap[b]? = w.heap[b]?) : LI w' z k VB VH LB LH :=
  ⟨fun i hi => ⟨K.ownB_keep (h.ob i hi).1 (hb i hi), (h.ob i hi).2⟩, fun i hi => ⟨ownH_keep (h.oh i hi).1 (hh i hi), (h.oh i hi).2⟩, h.sb, h.sh⟩
def updB (V : Nat → K.Lst) (k : Nat) (l : K.Lst) : Nat → K.Lst := fun i => if i = k then l else V i
def updH (V : Nat → KH.Lst) (k : Nat) (l : KH.Lst) : Nat → KH.Lst := fun i => if i = k then l else V i
def updL {α : Type} (V : Nat → α) (k : Nat) (l : α) : Nat → α := fun i => if i = k then l else V i
theorem LI.add {w : World} {z k : Nat} {VB : Nat → K.Lst} {VH : Nat → KH.Lst} {LB : Nat → List UInt8} {LH : Nat → List (List UInt8)} (h : LI w z k VB VH LB LH) (z1 : Nat) (hz : z ≤ z1) (ra : Option Addr) (rc : Nat) (R : List UInt8) (la : Option Addr) (lc : Nat) (D : List (List UInt8)) (oR : K.OwnB w z1 (.slice ra R.length rc) R) (oD : OwnH w z1 (.slice la D.length lc) D)
    (nR : R.length ≤ 140737488351232) (nD : D.length ≤ 4398046510976) (ltB : ∀ i, i < k → ∀ b, (VB i).v.ownBlock = some b → b < z1) (ltH : ∀ i, i < k → ∀ b, (VH i).v.ownBlock = some b → b < z1) : LI w z (k + 1) (updB VB k ⟨ra, R.length, rc⟩) (updH VH k ⟨la, D.length, lc⟩) (updL LB k R) (updL LH k D) := by
  refine ⟨fun i hi => ?_, fun i hi => ?_, fun i j hi hj b h1 h2 => ?_, fun i j hi hj b h1 h2 => ?_⟩
  · unfold updB updL
    by_cases e : i = k
    · rw [if_pos e, if_pos e]; exact ⟨K.ownB_base oR hz, rfl, nR⟩
    · rw [if_neg e, if_neg e]; exact h.ob i (by omega)
  · unfold updH updL
    by_cases e : i = k
    · rw [if_pos e, if_pos e]; exact ⟨ownH_base oD hz, rfl, nD⟩
    · rw [if_neg e, if_neg e]; exact h.oh i (by omega)
  · unfold updB at h1 h2
    by_cases e : i = k <;> by_cases f : j = k
    · omega
    · rw [if_pos e] at h1
      rw [if_neg f] at h2
      have := (World.ownsRow.lt oR b h1).1
      have := ltB j (by omega) b h2
      omega
    · rw [if_neg e] at h1
      rw [if_pos f] at h2
      have := (World.ownsRow.lt oR b h2).1
      have := ltB i (by omega) b h1
      omega
    · rw [if_neg e] at h1
      rw [if_neg f] at h2
      exact h.sb i j (by omega) (by omega) b h1 h2
  · unfold updH at h1 h2
    by_cases e : i = k <;> by_cases f : j = k
    · omega
    · rw [if_pos e] at h1
      rw [if_neg f] at h2
      have := (World.ownsRow.lt oD.2 b h1).1
      have := ltH j (by omega) b h2
      omega
    · rw [if_neg e] at h1
      rw [if_pos f] at h2
      have := (World.ownsRow.lt oD.2 b h2).1
      have := ltH i (by omega) b h1
      omega
    · rw [if_neg e] at h1
      rw [if_neg f] at h2
      exact h.sh i j (by omega) (by omega) b h1 h2
theorem upd_rows (V : Nat → K.Lst) (k : Nat) (l : K.Lst) : (List.range (k + 1)).map (fun i => (updB V k l i).v) = (List.range k).map (fun i => (V i).v) ++ [l.v] := by
  rw [List.range_succ, List.map_append]
  congr 1
  · apply List.map_congr_left
    intro i hi
    unfold updB
    rw [if_neg (by have := List.mem_range.1 hi; omega)]
  · simp [updB]
theorem upd_rowsH (V : Nat → KH.Lst) (k : Nat) (l : KH.Lst) : (List.range (k + 1)).map (fun i => (updH V k l i).v) = (List.range k).map (fun i => (V i).v) ++ [l.v] := by
  rw [List.range_succ, List.map_append]
  congr 1
  · apply List.map_congr_left
    intro i hi
    unfold updH
    rw [if_neg (by have := List.mem_range.1 hi; omega)]
  · simp [updH]
open Classical in
noncomputable def tgH (N : Nat) (V : Nat → KH.Lst) : Nat → Nat := fun b => if h : ∃ i, i < N ∧ (V i).v.ownBlock = some b then Classical.choose h + 1 else 0
theorem tgH_own {N : Nat} {V : Nat → KH.Lst} (sep : ∀ i j, i < N → j < N → ∀ b, (V i).v.ownBlock = some b → (V j).v.ownBlock = some b → i = j) (i : Nat) (hi : i < N) : KH.Tg (tgH N V) (V i).v (i + 1) := fun b e => by
  have h : ∃ i, i < N ∧ (V i).v.ownBlock = some b := ⟨i, hi, e⟩
  unfold tgH
  rw [dif_pos h]
  have c := Classical.choose_spec h
  rw [sep _ _ c.1 hi b c.2 e]
theorem tgH_no {N : Nat} {V : Nat → KH.Lst} (b : Nat) (h : ∀ i, i < N → (V i).v.ownBlock ≠ some b) : tgH N V b = 0 := by
  unfold tgH
  rw [dif_neg (fun ⟨i, hi, e⟩ => h i hi e)]
theorem rows_at {w : World} {base N : Nat} {e : TypeId} {v : Value} {f : Nat → Value} (o : w.ownsRow base e 1 v N ((List.range N).map f)) (hN : 1 ≤ N) : ∃ B cB, v = .slice (some ⟨B, 0, none⟩) N cB ∧ B < w.heap.size ∧ (∀ i, i < N → w.cell? ⟨B, i, none⟩ = some (f i)) ∧ ∃ c, w.heap[B]? = some (.cells c e (0, 0)) := by
  have hc := fun g hg => World.ownsRow.cells o (g := g) hg
  rcases o.2 with ⟨_, hn0⟩ | ⟨g, cap, cur, rfl, hbg, hg, _⟩
  · omega
  · refine ⟨g, cap, rfl, (Array.getElem?_eq_some_iff.1 hg).1, fun i hi => ?_, cur, hg⟩
    have := hc g rfl i (f i) (by rw [List.getElem?_map, List.getElem?_range hi]; rfl)
    rw [Addr.add_mid, Nat.zero_add] at this
    exact this
/-- Both kinds of lists, looked at. -/
theorem two_any (q z N : Nat) (x y : Value) (VB : Nat → K.Lst) (VH : Nat → KH.Lst) (LB : Nat → List UInt8) (LH : Nat → List (List UInt8)) (w : World) (hN1 : 1 ≤ N) (hN : N ≤ 4398046510976) (bk : Bk2 w q z x y ((List.range N).map fun i => (VB i).v) ((List.range N).map fun i => (VH i).v)) (li : LI w z N VB VH LB LH) (hqz : q < z) (hz : z ≤ w.heap.size) :
    Calls Tryz.prog 57 #[.pointer (some ⟨q, 0, none⟩)] w fun e w1 => e = .returned (.bool true) ∧ Below z w w1 ∧ Calls Tryz.prog 58 #[.pointer (some ⟨q, 0, none⟩)] w1 fun e w2 => e = .returned (.bool true) ∧ Below z w w2 ∧ w2.heap[q]? = some (.cells (bkC2 x y) 66 (0, 0)) := by
  obtain ⟨hq, ox, oy⟩ := bk
  have hlB : ((List.range N).map fun i => (VB i).v).length = N := by simp
  have hlH : ((List.range N).map fun i => (VH i).v).length = N := by simp
  rw [hlB] at ox
  rw [hlH] at oy
  obtain ⟨B, cB, rfl, lB, cb, xc, hxB⟩ := rows_at ox hN1
  obtain ⟨C, cC, rfl, lC, cc, yc, hyC⟩ := rows_at oy hN1
  have nB : ∀ i, i < N → ∀ b, (VB i).v.ownBlock = some b → z ≤ b ∧ b < w.heap.size := fun i hi b e => World.ownsRow.lt (li.ob i hi).1 b e
  have nH : ∀ i, i < N → ∀ b, (VH i).v.ownBlock = some b → z ≤ b ∧ b < w.heap.size := fun i hi b e => World.ownsRow.lt (li.oh i hi).1.2 b e
  refine (K.aloneBytes_any q B cB z N (some (.cells (bkC2 (.slice (some ⟨B, 0, none⟩) N cB) (.slice (some ⟨C, 0, none⟩) N cC)) 66 (0, 0))) VB LB (K.tgOf N VB) w hN1 hN (fun i hi => (li.ob i hi).2.2) ⟨⟨(cell_of_row w q 0 _ _ _ hq).trans rfl, cb, hq, lB⟩, K.tgOf_no q (fun i hi e => by have := (nB i hi q e).1; omega), K.tgOf_no B (fun i hi e => own_ty (li.ob i hi).1 hxB (by decide) e), fun i hi => ⟨(li.ob i hi).1, K.tgOf_own li.sb i hi, (li.ob i hi).2.1⟩, Below.refl _ _, fun _ _ _ => rfl⟩ hz).mono ?_
  rintro e w1 ⟨rfl, b1, hq1, fr1⟩
  refine ⟨rfl, b1, ?_⟩
  have hz1 : z ≤ w1.heap.size := Nat.le_trans hz b1.size
  have keepH : ∀ k, k < w.heap.size → (∀ i, i < N → (VB i).v.ownBlock ≠ some k) → w1.heap[k]? = w.heap[k]? := fun k hk h => fr1 k hk (K.tgOf_no k h)
  have oh1 : ∀ i, i < N → OwnH w1 z (VH i).v (LH i) := fun i hi => ownH_keep (li.oh i hi).1 (fun b e => keepH b (nH i hi b e).2 (fun j hj e2 => own_ty2 (li.ob j hj).1 (li.oh i hi).1.2 (by decide) e2 e))
  have hC1 : w1.heap[C]? = w.heap[C]? := keepH C lC (fun j hj e2 => own_ty (li.ob j hj).1 hyC (by decide) e2)
  refine (KH.aloneHashes_any q C cC z N (some (.cells (bkC2 (.slice (some ⟨B, 0, none⟩) N cB) (.slice (some ⟨C, 0, none⟩) N cC)) 66 (0, 0))) VH LH (tgH N VH) w1 hN1 hN (fun i hi => (li.oh i hi).2.2) ⟨⟨(cell_of_row w1 q 1 _ _ _ hq1).trans rfl, fun i hi => (World.cell?_of_block hC1).trans (cc i hi), hq1, Nat.lt_of_lt_of_le lC b1.size⟩, tgH_no q (fun i hi e => by have := (nH i hi q e).1; omega), tgH_no C (fun i hi e => own_ty (li.oh i hi).1.2 hyC (by decide) e), fun i hi => ⟨oh1 i hi, tgH_own li.sh i hi, (li.oh i hi).2.1⟩, Below.refl _ _, fun _ _ _ => rfl⟩ hz1).mono ?_
  rintro e w2 ⟨rfl, b2, hq2, _⟩
  exact ⟨rfl, b1.trans (b2.mono (Nat.le_refl _)), hq2⟩
theorem hsBk2 : (Tryz.prog.info? 66).map (·.size) = some 18 := by kernel_rfl
theorem hbBk2 : Tryz.prog.built 66 [] = some (bkC2 (.slice none 0 0) (.slice none 0 0)) := by kernel_rfl
theorem hone2 : (bkC2 (.slice none 0 0) (.slice none 0 0)).all (·.oneCell') = true := by kernel_rfl
set_option maxRecDepth 100000 in
set_option maxHeartbeats 2000000 in
/-- Book.Alone of lists of both kinds. -/
theorem book2_any (q z : Nat) (x y : Value) (w : World) (hx1 : ∃ a n c, x = .slice a n c) (hy1 : ∃ a n c, y = .slice a n c)
    (H2 : Hid (Calls Tryz.prog 57 #[.pointer (some ⟨q, 0, none⟩)] w fun e w1 => e = .returned (.bool true) ∧ Below z w w1 ∧ Calls Tryz.prog 58 #[.pointer (some ⟨q, 0, none⟩)] w1 fun e w2 => e = .returned (.bool true) ∧ Below z w w2 ∧ w2.heap[q]? = some (.cells (bkC2 x y) 66 (0, 0)))) :
    Calls Tryz.prog 16 #[.pointer (some ⟨q, 0, none⟩)] w fun e w' => e = .returned (.bool true) ∧ w'.os = w.os ∧ w'.tape = w.tape ∧ w'.output = w.output ∧ w.heap.size ≤ w'.heap.size ∧ ∀ k, k < z → k ≠ q → w'.heap[k]? = w.heap[k]? := by
  obtain ⟨xa, xn, xk, rfl⟩ := hx1
  obtain ⟨ya, yn, yk, rfl⟩ := hy1
  go_enter Tryz.func16, Tryz.ntmps16
  go_wp2_with fail
  refine H2.out.mono ?_
  rintro e w1 ⟨rfl, _, h2⟩
  have HH := K.Hid.mk' h2
  clear h2 H2
  go_wp2_with fail
  refine HH.out.mono ?_
  rintro e w2 ⟨rfl, b2, hq2⟩
  have B2 := K.Hid.mk' b2
  clear HH b2
  have CIds : Hid (Calls Tryz.prog 59 #[.pointer (some ⟨q, 0, none⟩)] w2 fun e w' => e = .returned (.bool true) ∧ w' = w2) := aloneIds q w2 ((cell_of_row w2 q 2 _ _ _ hq2).trans rfl)
  have CTexts : Hid (Calls Tryz.prog 60 #[.pointer (some ⟨q, 0, none⟩)] w2 fun e w' => e = .returned (.bool true) ∧ w' = w2) := aloneTexts q w2 ((cell_of_row w2 q 3 _ _ _ hq2).trans rfl)
  have CInts : Hid (Calls Tryz.prog 61 #[.pointer (some ⟨q, 0, none⟩)] w2 fun e w' => e = .returned (.bool true) ∧ w' = w2) := aloneInts q w2 ((cell_of_row w2 q 4 _ _ _ hq2).trans rfl)
  have CEntries : Hid (Calls Tryz.prog 62 #[.pointer (some ⟨q, 0, none⟩)] w2 fun e w' => e = .returned (.bool true) ∧ w' = w2) := aloneEntries q w2 ((cell_of_row w2 q 5 _ _ _ hq2).trans rfl)
  have CEdits : Hid (Calls Tryz.prog 63 #[.pointer (some ⟨q, 0, none⟩)] w2 fun e w' => e = .returned (.bool true) ∧ w' = w2) := aloneEdits q w2 ((cell_of_row w2 q 6 _ _ _ hq2).trans rfl)
  have COps : Hid (Calls Tryz.prog 64 #[.pointer (some ⟨q, 0, none⟩)] w2 fun e w' => e = .returned (.bool true) ∧ w' = w2) := aloneOps q w2 ((cell_of_row w2 q 7 _ _ _ hq2).trans rfl)
  have CSpans : Hid (Calls Tryz.prog 65 #[.pointer (some ⟨q, 0, none⟩)] w2 fun e w' => e = .returned (.bool true) ∧ w' = w2) := aloneSpans q w2 ((cell_of_row w2 q 8 _ _ _ hq2).trans rfl)
  have CSteps : Hid (Calls Tryz.prog 66 #[.pointer (some ⟨q, 0, none⟩)] w2 fun e w' => e = .returned (.bool true) ∧ w' = w2) := aloneSteps q w2 ((cell_of_row w2 q 9 _ _ _ hq2).trans rfl)
  have CCredits : Hid (Calls Tryz.prog 67 #[.pointer (some ⟨q, 0, none⟩)] w2 fun e w' => e = .returned (.bool true) ∧ w' = w2) := aloneCredits q w2 ((cell_of_row w2 q 10 _ _ _ hq2).trans rfl)
  have CRights : Hid (Calls Tryz.prog 68 #[.pointer (some ⟨q, 0, none⟩)] w2 fun e w' => e = .returned (.bool true) ∧ w' = w2) := aloneRights q w2 ((cell_of_row w2 q 11 _ _ _ hq2).trans rfl)
  have CUpdates : Hid (Calls Tryz.prog 69 #[.pointer (some ⟨q, 0, none⟩)] w2 fun e w' => e = .returned (.bool true) ∧ w' = w2) := aloneUpdates q w2 ((cell_of_row w2 q 12 _ _ _ hq2).trans rfl)
  have CNodes : Hid (Calls Tryz.prog 70 #[.pointer (some ⟨q, 0, none⟩)] w2 fun e w' => e = .returned (.bool true) ∧ w' = w2) := aloneNodes q w2 ((cell_of_row w2 q 13 _ _ _ hq2).trans rfl)
  have CPatches : Hid (Calls Tryz.prog 71 #[.pointer (some ⟨q, 0, none⟩)] w2 fun e w' => e = .returned (.bool true) ∧ w' = w2) := alonePatches q w2 ((cell_of_row w2 q 14 _ _ _ hq2).trans rfl)
  have CImages : Hid (Calls Tryz.prog 72 #[.pointer (some ⟨q, 0, none⟩)] w2 fun e w' => e = .returned (.bool true) ∧ w' = w2) := aloneImages q w2 ((cell_of_row w2 q 15 _ _ _ hq2).trans rfl)
  have CForks : Hid (Calls Tryz.prog 73 #[.pointer (some ⟨q, 0, none⟩)] w2 fun e w' => e = .returned (.bool true) ∧ w' = w2) := aloneForks q w2 ((cell_of_row w2 q 16 _ _ _ hq2).trans rfl)
  have CRows : Hid (Calls Tryz.prog 74 #[.pointer (some ⟨q, 0, none⟩)] w2 fun e w' => e = .returned (.bool true) ∧ w' = w2) := aloneRows q w2 ((cell_of_row w2 q 17 _ _ _ hq2).trans rfl)
  go_wp2_with fail
  refine (CIds.out).mono ?_
  rintro e wy ⟨rfl, hwy⟩
  subst hwy
  go_wp2_with fail
  refine (CTexts.out).mono ?_
  rintro e wy ⟨rfl, hwy⟩
  subst hwy
  go_wp2_with fail
  refine (CInts.out).mono ?_
  rintro e wy ⟨rfl, hwy⟩
  subst hwy
  go_wp2_with fail
  refine (CEntries.out).mono ?_
  rintro e wy ⟨rfl, hwy⟩
  subst hwy
  go_wp2_with fail
  refine (CEdits.out).mono ?_
  rintro e wy ⟨rfl, hwy⟩
  subst hwy
  go_wp2_with fail
  refine (COps.out).mono ?_
  rintro e wy ⟨rfl, hwy⟩
  subst hwy
  go_wp2_with fail
  refine (CSpans.out).mono ?_
  rintro e wy ⟨rfl, hwy⟩
  subst hwy
  go_wp2_with fail
  refine (CSteps.out).mono ?_
  rintro e wy ⟨rfl, hwy⟩
  subst hwy
  go_wp2_with fail
  refine (CCredits.out).mono ?_
  rintro e wy ⟨rfl, hwy⟩
  subst hwy
  go_wp2_with fail
  refine (CRights.out).mono ?_
  rintro e wy ⟨rfl, hwy⟩
  subst hwy
  go_wp2_with fail
  refine (CUpdates.out).mono ?_
  rintro e wy ⟨rfl, hwy⟩
  subst hwy
  go_wp2_with fail
  refine (CNodes.out).mono ?_
  rintro e wy ⟨rfl, hwy⟩
  subst hwy
  go_wp2_with fail
  refine (CPatches.out).mono ?_
  rintro e wy ⟨rfl, hwy⟩
  subst hwy
  go_wp2_with fail
  refine (CImages.out).mono ?_
  rintro e wy ⟨rfl, hwy⟩
  subst hwy
  go_wp2_with fail
  refine (CForks.out).mono ?_
  rintro e wy ⟨rfl, hwy⟩
  subst hwy
  go_wp2_with fail
  refine (CRows.out).mono ?_
  rintro e wy ⟨rfl, hwy⟩
  subst hwy
  clear CIds CTexts CInts CEntries CEdits COps CSpans CSteps CCredits CRights CUpdates CNodes CPatches CImages CForks CRows
  go_wp2_with (first | (refine wpList_build_row rfl 66 rfl (bkC2 (.slice none 0 0) (.slice none 0 0)) hbBk2 ?_) | (refine wpList_store_row rfl 66 (.tmp 76) (.tmp 75) rfl q (bkC2 (.slice none 0 0) (.slice none 0 0)) rfl rfl 66 (bkC2 (.slice xa xn xk) (.slice ya yn yk)) hq2 (hsBk2.trans rfl) rfl hone2 ?_) | fail)
  go_ret
  exact ⟨rfl, B2.out.os, B2.out.tape, B2.out.output, (by simp; exact B2.out.size), fun k hk hkq => (setRow_other _ _ _ _ hkq).trans (B2.out.block k hk)⟩
end Go.Proofs.YtdnocpngdepbgaaGreatDoor
