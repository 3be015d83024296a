import Derived.Test.YthffcdahjcpdfaaGreatDoorRows
import Derived.WalkKit
import Derived.WalkSpells
import Derived.WalkLawsBesides
import Derived.Test.YthffcdahjcpdfaaGreatDoorBGs
import Derived.Test.YthffcdahjcpdfaaGreatDoorGBd
namespace Go.Proofs.YthffcdahjcpdfaaGreatDoor
open Go.RowKit
set_option linter.unusedVariables false
set_option linter.unusedSimpArgs false

set_option maxRecDepth 100000 in
set_option maxHeartbeats 1000000 in
theorem aloneNodes (q : Nat) (w : World) (c : w.cell? ⟨q, 13, none⟩ = some (.slice none 0 0)) :
    Calls Tryz.prog 31 #[.pointer (some ⟨q, 0, none⟩)] w fun e w' => e = .returned (.bool true) ∧ w' = w := by
  go_enter Tryz.func31, Tryz.ntmps31
  go_wp2
  go_loopw [3] (fun i wr => i = .int .i64 0 ∧ wr = w) (fun _ _ => 0)
  case atStart => exact ⟨rfl, rfl⟩
  case round =>
    obtain ⟨rfl, rfl⟩ := hrel
    go_wp2
    go_loopw [5, 6] (fun all i wy => all = .slice none 0 0 ∧ i = .int .i64 0 ∧ wy = wr) (fun _ _ _ => 0)
    case atStart => exact ⟨rfl, rfl, rfl⟩
    case round =>
      obtain ⟨rfl, rfl, rfl⟩ := hrel
      go_wp2
      go_loopw [9] (fun i wz => i = .int .i64 0 ∧ wz = wr) (fun _ _ => 0)
      case atStart => exact ⟨rfl, rfl⟩
      case round =>
        obtain ⟨rfl, rfl⟩ := hrel
        go_wp2
        go_ret
        exact ⟨rfl, rfl⟩
set_option maxRecDepth 100000 in
set_option maxHeartbeats 1000000 in
theorem alonePatches (q : Nat) (w : World) (c : w.cell? ⟨q, 14, none⟩ = some (.slice none 0 0)) :
    Calls Tryz.prog 32 #[.pointer (some ⟨q, 0, none⟩)] w fun e w' => e = .returned (.bool true) ∧ w' = w := by
  go_enter Tryz.func32, Tryz.ntmps32
  go_wp2
  go_loopw [3] (fun i wr => i = .int .i64 0 ∧ wr = w) (fun _ _ => 0)
  case atStart => exact ⟨rfl, rfl⟩
  case round =>
    obtain ⟨rfl, rfl⟩ := hrel
    go_wp2
    go_loopw [5, 6] (fun all i wy => all = .slice none 0 0 ∧ i = .int .i64 0 ∧ wy = wr) (fun _ _ _ => 0)
    case atStart => exact ⟨rfl, rfl, rfl⟩
    case round =>
      obtain ⟨rfl, rfl, rfl⟩ := hrel
      go_wp2
      go_loopw [9] (fun i wz => i = .int .i64 0 ∧ wz = wr) (fun _ _ => 0)
      case atStart => exact ⟨rfl, rfl⟩
      case round =>
        obtain ⟨rfl, rfl⟩ := hrel
        go_wp2
        go_ret
        exact ⟨rfl, rfl⟩
set_option maxRecDepth 100000 in
set_option maxHeartbeats 1000000 in
theorem aloneImages (q : Nat) (w : World) (c : w.cell? ⟨q, 15, none⟩ = some (.slice none 0 0)) :
    Calls Tryz.prog 33 #[.pointer (some ⟨q, 0, none⟩)] w fun e w' => e = .returned (.bool true) ∧ w' = w := by
  go_enter Tryz.func33, Tryz.ntmps33
  go_wp2
  go_loopw [3] (fun i wr => i = .int .i64 0 ∧ wr = w) (fun _ _ => 0)
  case atStart => exact ⟨rfl, rfl⟩
  case round =>
    obtain ⟨rfl, rfl⟩ := hrel
    go_wp2
    go_loopw [5, 6] (fun all i wy => all = .slice none 0 0 ∧ i = .int .i64 0 ∧ wy = wr) (fun _ _ _ => 0)
    case atStart => exact ⟨rfl, rfl, rfl⟩
    case round =>
      obtain ⟨rfl, rfl, rfl⟩ := hrel
      go_wp2
      go_loopw [9] (fun i wz => i = .int .i64 0 ∧ wz = wr) (fun _ _ => 0)
      case atStart => exact ⟨rfl, rfl⟩
      case round =>
        obtain ⟨rfl, rfl⟩ := hrel
        go_wp2
        go_ret
        exact ⟨rfl, rfl⟩
set_option maxRecDepth 100000 in
set_option maxHeartbeats 1000000 in
theorem aloneForks (q : Nat) (w : World) (c : w.cell? ⟨q, 16, none⟩ = some (.slice none 0 0)) :
    Calls Tryz.prog 34 #[.pointer (some ⟨q, 0, none⟩)] w fun e w' => e = .returned (.bool true) ∧ w' = w := by
  go_enter Tryz.func34, Tryz.ntmps34
  go_wp2
  go_loopw [3] (fun i wr => i = .int .i64 0 ∧ wr = w) (fun _ _ => 0)
  case atStart => exact ⟨rfl, rfl⟩
  case round =>
    obtain ⟨rfl, rfl⟩ := hrel
    go_wp2
    go_loopw [5, 6] (fun all i wy => all = .slice none 0 0 ∧ i = .int .i64 0 ∧ wy = wr) (fun _ _ _ => 0)
    case atStart => exact ⟨rfl, rfl, rfl⟩
    case round =>
      obtain ⟨rfl, rfl, rfl⟩ := hrel
      go_wp2
      go_loopw [9] (fun i wz => i = .int .i64 0 ∧ wz = wr) (fun _ _ => 0)
      case atStart => exact ⟨rfl, rfl⟩
      case round =>
        obtain ⟨rfl, rfl⟩ := hrel
        go_wp2
        go_ret
        exact ⟨rfl, rfl⟩
set_option maxRecDepth 100000 in
set_option maxHeartbeats 1000000 in
theorem aloneRows (q : Nat) (w : World) (c : w.cell? ⟨q, 17, none⟩ = some (.slice none 0 0)) :
    Calls Tryz.prog 35 #[.pointer (some ⟨q, 0, none⟩)] w fun e w' => e = .returned (.bool true) ∧ w' = w := by
  go_enter Tryz.func35, Tryz.ntmps35
  go_wp2
  go_loopw [3] (fun i wr => i = .int .i64 0 ∧ wr = w) (fun _ _ => 0)
  case atStart => exact ⟨rfl, rfl⟩
  case round =>
    obtain ⟨rfl, rfl⟩ := hrel
    go_wp2
    go_loopw [5, 6] (fun all i wy => all = .slice none 0 0 ∧ i = .int .i64 0 ∧ wy = wr) (fun _ _ _ => 0)
    case atStart => exact ⟨rfl, rfl, rfl⟩
    case round =>
      obtain ⟨rfl, rfl, rfl⟩ := hrel
      go_wp2
      go_loopw [9] (fun i wz => i = .int .i64 0 ∧ wz = wr) (fun _ _ => 0)
      case atStart => exact ⟨rfl, rfl⟩
      case round =>
        obtain ⟨rfl, rfl⟩ := hrel
        go_wp2
        go_ret
        exact ⟨rfl, rfl⟩
end Go.Proofs.YthffcdahjcpdfaaGreatDoor

namespace Go.Proofs.YthffcdahjcpdfaaGreatDoor.B
open Go.RowKit
set_option linter.unusedVariables false
set_option linter.unusedSimpArgs false

/-- A Book's cells. -/
def bkC (all : Value) : Array Value := #[.slice none 0 0, .slice none 0 0, .slice none 0 0, .slice none 0 0, .slice none 0 0, .slice none 0 0, .slice none 0 0, .slice none 0 0, .slice none 0 0, all, .slice none 0 0, .slice none 0 0, .slice none 0 0, .slice none 0 0, .slice none 0 0, .slice none 0 0, .slice none 0 0, .slice none 0 0]
def BkN (w : World) (q base : Nat) (all : Value) (rows : List Value) : Prop := w.heap[q]? = some (.cells (bkC all) 43 (0, 0)) ∧ w.ownsRow base 22 1 all rows.length rows ∧ all.ownBlock ≠ some q
set_option maxRecDepth 100000 in
set_option maxHeartbeats 1000000 in
theorem take_any (q base : Nat) (all : Value) (rows : List Value) (a : Option Addr) (n c : Nat) (w : World) (hw : BkN w q base all rows) (hn : rows.length ≤ 4398046510976) (hbq : base ≤ q) :
    Calls Tryz.prog 7 #[.pointer (some ⟨q, 0, none⟩), .slice a n c] w fun e w' => e = .returned (.tuple #[]) ∧ (∃ all', BkN w' q base all' (rows ++ [.slice a n c])) ∧ Below base w w' ∧ ∀ k, k < w.heap.size → k ≠ q → all.ownBlock ≠ some k → w'.heap[k]? = w.heap[k]? := by
  obtain ⟨hq, hr, hne⟩ := hw
  obtain ⟨i0, hi0, hz0, hs0, hby0⟩ := infoSl
  have zq : q < w.heap.size := (Array.getElem?_eq_some_iff.1 hq).1
  have c0 := (cell_of_row w q 9 _ _ _ hq).trans (show (bkC all)[9]? = some all from rfl)
  have be : Below w.heap.size w (w.alloc (.cells #[.slice a n c] 22)) := (Below.refl _ _).alloc (Nat.le_refl _) _
  have RA : Hid ((w.alloc (.cells #[.slice a n c] 22)).ownsRow base 22 1 all rows.length rows) := World.ownsRow.kept hr (World.grownBy_alloc w _ none) (by cases hx : all.ownBlock <;> simp)
  have CA : Hid ((w.alloc (.cells #[.slice a n c] 22)).cell? ⟨w.heap.size, 0, none⟩ = some (.slice a n c)) := (cell_of_row _ w.heap.size 0 _ _ _ (heap_alloc_new _ _)).trans rfl
  have ZA : Hid (base ≤ (w.alloc (.cells #[.slice a n c] 22)).heap.size) := (by simp; omega : _ ≤ _)
  have QA : Hid ((w.alloc (.cells #[.slice a n c] 22)).heap[q]? = some (.cells (bkC all) 43 (0, 0))) := (be.block q zq).trans hq
  have BA : Hid (Below base w (w.alloc (.cells #[.slice a n c] 22))) := (Below.refl _ _).alloc (by omega) _
  have be2 := be
  clear hq hr be
  go_enter Tryz.func7, Tryz.ntmps7
  go_wp2_with (first | (at_builtin; refine wpList_app3 rfl (.tmp 8) (.tmp 10) 33 22 i0 (.slice none 0 0) 1 24 Tryz.underlying33 hi0 hz0 hs0 hby0 rfl (by decide) rfl base all rows.length rows rfl RA.out ⟨w.heap.size, 0, none⟩ 1 [.slice a n c] rfl rfl (one_cell CA.out) (by simp; rfl) (by unfold maxLen; omega) (by omega) ZA.out ?_) | fail)
  intro all' w1 rows' gr hblk
  have zA : q < (w.alloc (.cells #[.slice a n c] 22)).heap.size := by simp; omega
  have hq1 : w1.heap[q]? = some (.cells (bkC all) 43 (0, 0)) := by rw [gr.block q zA (fun e => hne e.symm)]; exact QA.out
  have d0 := (cell_of_row w1 q 9 _ _ _ hq1).trans (show (bkC all)[9]? = some all from rfl)
  have f0 := frozen_of_row w1 q 9 _ _ hq1
  have hne1 : all'.ownBlock ≠ some q := by
    rcases hblk with e | e
    · rw [e]; exact hne
    · rw [e.1]; intro h; simp at h; omega
  have one : all'.oneCell' = true := by
    rcases rows'.2 with ⟨rfl, _⟩ | ⟨g, cap, cur, rfl, _⟩ <;> rfl
  have W1 : Hid (BkN (w1.setCell ⟨q, 9, none⟩ all') q base all' (rows ++ [.slice a n c])) := ⟨by rw [heap_setCell_same w1 q 9 _ 43 _ hq1]; rfl, by
    refine ⟨?_, ?_⟩
    · have := rows'.1; simp
    · rcases rows'.2 with ⟨rfl, hn0⟩ | ⟨g, cap, cur, rfl, hbg, hg, rest⟩
      · exact .inl ⟨rfl, by simp at hn0⟩
      · refine .inr ⟨g, cap, cur, by simp, hbg, ?_, by simpa using rest⟩
        rw [Below.heap_setCell _ _ _ _ (fun e => hne1 (by simp [Value.ownBlock]; exact e))]
        exact hg, hne1⟩
  have B1 : Hid (Below base w (w1.setCell ⟨q, 9, none⟩ all')) := (BA.out.grown gr ZA.out (fun k hk => (World.ownsRow.lt RA.out k hk).1)).setCell hbq _
  have FR : Hid (∀ k, k < w.heap.size → k ≠ q → all.ownBlock ≠ some k → (w1.setCell ⟨q, 9, none⟩ all').heap[k]? = w.heap[k]?) := fun k hk hkq hko => by
    rw [Below.heap_setCell _ _ _ _ hkq, gr.block k (by simp; omega) (fun e => hko e.symm)]
    exact be2.block k hk
  obtain ⟨ga, gn, gc, rfl⟩ : ∃ ga gn gc, all' = .slice ga gn gc := by
    rcases rows'.2 with ⟨rfl, _⟩ | ⟨g, cap, cur, rfl, _⟩ <;> exact ⟨_, _, _, rfl⟩
  clear RA CA ZA QA BA rows' gr hblk hne1 hne be2
  go_wp2
  go_end0
  exact ⟨rfl, ⟨_, W1.out⟩, B1.out, FR.out⟩
theorem below_setRowX (B : Nat) (w : World) (g : Nat) (cs : Array Value) (h : B ≤ g) : Below B w (w.setRow g cs) :=
  ⟨rfl, rfl, rfl, by simp, fun k hk => setRow_other w g k cs (by omega)⟩
theorem hbBk : Tryz.prog.built 43 [] = some (bkC (.slice none 0 0)) := by kernel_rfl
theorem hsBk : (Tryz.prog.info? 43).map (·.size) = some 18 := by kernel_rfl
theorem hone (v : Value) (h : v = .slice none 0 0) : (bkC v).all (·.oneCell') = true := by subst h; kernel_rfl
end Go.Proofs.YthffcdahjcpdfaaGreatDoor.B

namespace Go.Proofs.YthffcdahjcpdfaaGreatDoor.B
open Go.RowKit
set_option linter.unusedVariables false
set_option linter.unusedSimpArgs false

set_option maxRecDepth 100000 in
set_option maxHeartbeats 2000000 in
/-- Book.Alone of N lists of steps, and no other list. -/
theorem bookS_any (q base bb N : Nat) (all : Value) (V : Nat → Lst) (L : Nat → List Value) (w : World) (hN1 : 1 ≤ N) (hN : N ≤ 4398046510976) (hn : ∀ i, i < N → (V i).n ≤ 4398046510976)
    (bn : BkN w q bb all ((List.range N).map fun i => (V i).v)) (hbq : base ≤ q) (hbb : base ≤ bb) (ow : ∀ i, i < N → w.ownsRow base 54 3 (V i).v (V i).n (L i))
    (sep : ∀ i j, i < N → j < N → ∀ b, (V i).v.ownBlock = some b → (V j).v.ownBlock = some b → i = j) :
    Calls Tryz.prog 10 #[.pointer (some ⟨q, 0, none⟩)] w fun e w' => e = .returned (.bool true) ∧ Below base w w' ∧ ∀ k, k < w.heap.size → k ≠ q → (∀ i, i < N → (V i).v.ownBlock ≠ some k) → w'.heap[k]? = w.heap[k]? := by
  obtain ⟨hq, rows, hne⟩ := bn
  have zq : q < w.heap.size := (Array.getElem?_eq_some_iff.1 hq).1
  have hlen : ((List.range N).map fun i => (V i).v).length = N := by simp
  rw [hlen] at rows
  have tyq : ∀ i, i < N → (V i).v.ownBlock ≠ some q := fun i hi e => by
    rcases (ow i hi).2 with ⟨e1, _⟩ | ⟨g, cap, cur, e1, _, hg, _⟩
    · rw [e1] at e; cases e
    · rw [e1] at e
      simp [Value.ownBlock] at e
      subst e
      rw [hq] at hg
      injection hg with hg
      injection hg with _ h2 _
      revert h2
      decide
  obtain ⟨B, cB, rfl, hBl, hc, hB⟩ : ∃ B cB, all = .slice (some ⟨B, 0, none⟩) N cB ∧ B < w.heap.size ∧ (∀ i, i < N → w.cell? ⟨B, i, none⟩ = some (V i).v) ∧ ∃ cur, w.heap[B]? = some (.cells cur 22 (0, 0)) := by
    have hc := fun g hg => World.ownsRow.cells rows (g := g) hg
    rcases rows.2 with ⟨_, hn0⟩ | ⟨g, cap, cur, rfl, hbg, hg, _⟩
    · omega
    · refine ⟨g, cap, rfl, (Array.getElem?_eq_some_iff.1 hg).1, fun i hi => ?_, cur, hg⟩
      have := hc g rfl i (V i).v (by rw [List.getElem?_map, List.getElem?_range hi]; rfl)
      rw [Addr.add_mid, Nat.zero_add] at this
      exact this
  have tyB : ∀ i, i < N → (V i).v.ownBlock ≠ some B := fun i hi e => by
    obtain ⟨cur, hB⟩ := hB
    rcases (ow i hi).2 with ⟨e1, _⟩ | ⟨g, cap, cur2, e1, _, hg, _⟩
    · rw [e1] at e; cases e
    · rw [e1] at e
      simp [Value.ownBlock] at e
      subst e
      rw [hB] at hg
      injection hg with hg
      injection hg with _ h2 _
      revert h2
      decide
  have c0 : w.cell? ⟨q, 9, none⟩ = some (.slice (some ⟨B, 0, none⟩) N cB) := (cell_of_row w q 9 _ _ _ hq).trans rfl
  have HST : Hid (Calls Tryz.prog 27 #[.pointer (some ⟨q, 0, none⟩)] w fun e w' => e = .returned (.bool true) ∧ Below base w w' ∧ w'.heap[q]? = some (.cells (bkC (.slice (some ⟨B, 0, none⟩) N cB)) 43 (0, 0)) ∧ ∀ k, k < w.heap.size → (∀ i, i < N → (V i).v.ownBlock ≠ some k) → w'.heap[k]? = w.heap[k]?) :=
    (aloneSteps_any q B cB base N _ V L (tgOf N V) w hN1 hN hn ⟨⟨c0, hc, hq, hBl⟩, tgOf_no q tyq, tgOf_no B tyB, fun i hi => ⟨ow i hi, tgOf_own sep i hi⟩, Below.refl _ _, fun _ _ _ => rfl⟩ (by omega)).mono fun e w' h => ⟨h.1, h.2.1, h.2.2.1, fun k hk hi => h.2.2.2 k hk (tgOf_no k hi)⟩
  have CBytes : Hid (Calls Tryz.prog 18 #[.pointer (some ⟨q, 0, none⟩)] w fun e w' => e = .returned (.bool true) ∧ w' = w) := aloneBytes q w ((cell_of_row w q 0 _ _ _ hq).trans rfl)
  have CHashes : Hid (Calls Tryz.prog 19 #[.pointer (some ⟨q, 0, none⟩)] w fun e w' => e = .returned (.bool true) ∧ w' = w) := aloneHashes q w ((cell_of_row w q 1 _ _ _ hq).trans rfl)
  have CIds : Hid (Calls Tryz.prog 20 #[.pointer (some ⟨q, 0, none⟩)] w fun e w' => e = .returned (.bool true) ∧ w' = w) := aloneIds q w ((cell_of_row w q 2 _ _ _ hq).trans rfl)
  have CTexts : Hid (Calls Tryz.prog 21 #[.pointer (some ⟨q, 0, none⟩)] w fun e w' => e = .returned (.bool true) ∧ w' = w) := aloneTexts q w ((cell_of_row w q 3 _ _ _ hq).trans rfl)
  have CInts : Hid (Calls Tryz.prog 22 #[.pointer (some ⟨q, 0, none⟩)] w fun e w' => e = .returned (.bool true) ∧ w' = w) := aloneInts q w ((cell_of_row w q 4 _ _ _ hq).trans rfl)
  have CEntries : Hid (Calls Tryz.prog 23 #[.pointer (some ⟨q, 0, none⟩)] w fun e w' => e = .returned (.bool true) ∧ w' = w) := aloneEntries q w ((cell_of_row w q 5 _ _ _ hq).trans rfl)
  have CEdits : Hid (Calls Tryz.prog 24 #[.pointer (some ⟨q, 0, none⟩)] w fun e w' => e = .returned (.bool true) ∧ w' = w) := aloneEdits q w ((cell_of_row w q 6 _ _ _ hq).trans rfl)
  have COps : Hid (Calls Tryz.prog 25 #[.pointer (some ⟨q, 0, none⟩)] w fun e w' => e = .returned (.bool true) ∧ w' = w) := aloneOps q w ((cell_of_row w q 7 _ _ _ hq).trans rfl)
  have CSpans : Hid (Calls Tryz.prog 26 #[.pointer (some ⟨q, 0, none⟩)] w fun e w' => e = .returned (.bool true) ∧ w' = w) := aloneSpans q w ((cell_of_row w q 8 _ _ _ hq).trans rfl)
  clear hq rows hne hc c0 ow sep hlen tyq tyB hB
  go_enter Tryz.func10, Tryz.ntmps10
  go_wp2_with fail
  refine (CBytes.out).mono ?_
  rintro e wy ⟨rfl, hwy⟩
  subst hwy
  go_wp2_with fail
  refine (CHashes.out).mono ?_
  rintro e wy ⟨rfl, hwy⟩
  subst hwy
  go_wp2_with fail
  refine (CIds.out).mono ?_
  rintro e wy ⟨rfl, hwy⟩
  subst hwy
  go_wp2_with fail
  refine (CTexts.out).mono ?_
  rintro e wy ⟨rfl, hwy⟩
  subst hwy
  go_wp2_with fail
  refine (CInts.out).mono ?_
  rintro e wy ⟨rfl, hwy⟩
  subst hwy
  go_wp2_with fail
  refine (CEntries.out).mono ?_
  rintro e wy ⟨rfl, hwy⟩
  subst hwy
  go_wp2_with fail
  refine (CEdits.out).mono ?_
  rintro e wy ⟨rfl, hwy⟩
  subst hwy
  go_wp2_with fail
  refine (COps.out).mono ?_
  rintro e wy ⟨rfl, hwy⟩
  subst hwy
  go_wp2_with fail
  refine (CSpans.out).mono ?_
  rintro e wy ⟨rfl, hwy⟩
  subst hwy
  go_wp2_with fail
  refine HST.out.mono ?_
  rintro e w1 ⟨rfl, b1, hq1, fr1⟩
  have FR := Hid.mk' fr1
  clear fr1
  have CCredits : Hid (Calls Tryz.prog 28 #[.pointer (some ⟨q, 0, none⟩)] w1 fun e w' => e = .returned (.bool true) ∧ w' = w1) := aloneCredits q w1 ((cell_of_row w1 q 10 _ _ _ hq1).trans rfl)
  have CRights : Hid (Calls Tryz.prog 29 #[.pointer (some ⟨q, 0, none⟩)] w1 fun e w' => e = .returned (.bool true) ∧ w' = w1) := aloneRights q w1 ((cell_of_row w1 q 11 _ _ _ hq1).trans rfl)
  have CUpdates : Hid (Calls Tryz.prog 30 #[.pointer (some ⟨q, 0, none⟩)] w1 fun e w' => e = .returned (.bool true) ∧ w' = w1) := aloneUpdates q w1 ((cell_of_row w1 q 12 _ _ _ hq1).trans rfl)
  have CNodes : Hid (Calls Tryz.prog 31 #[.pointer (some ⟨q, 0, none⟩)] w1 fun e w' => e = .returned (.bool true) ∧ w' = w1) := aloneNodes q w1 ((cell_of_row w1 q 13 _ _ _ hq1).trans rfl)
  have CPatches : Hid (Calls Tryz.prog 32 #[.pointer (some ⟨q, 0, none⟩)] w1 fun e w' => e = .returned (.bool true) ∧ w' = w1) := alonePatches q w1 ((cell_of_row w1 q 14 _ _ _ hq1).trans rfl)
  have CImages : Hid (Calls Tryz.prog 33 #[.pointer (some ⟨q, 0, none⟩)] w1 fun e w' => e = .returned (.bool true) ∧ w' = w1) := aloneImages q w1 ((cell_of_row w1 q 15 _ _ _ hq1).trans rfl)
  have CForks : Hid (Calls Tryz.prog 34 #[.pointer (some ⟨q, 0, none⟩)] w1 fun e w' => e = .returned (.bool true) ∧ w' = w1) := aloneForks q w1 ((cell_of_row w1 q 16 _ _ _ hq1).trans rfl)
  have CRows : Hid (Calls Tryz.prog 35 #[.pointer (some ⟨q, 0, none⟩)] w1 fun e w' => e = .returned (.bool true) ∧ w' = w1) := aloneRows q w1 ((cell_of_row w1 q 17 _ _ _ hq1).trans rfl)
  go_wp2_with fail
  refine (CCredits.out).mono ?_
  rintro e wy ⟨rfl, hwy⟩
  subst hwy
  go_wp2_with fail
  refine (CRights.out).mono ?_
  rintro e wy ⟨rfl, hwy⟩
  subst hwy
  go_wp2_with fail
  refine (CUpdates.out).mono ?_
  rintro e wy ⟨rfl, hwy⟩
  subst hwy
  go_wp2_with fail
  refine (CNodes.out).mono ?_
  rintro e wy ⟨rfl, hwy⟩
  subst hwy
  go_wp2_with fail
  refine (CPatches.out).mono ?_
  rintro e wy ⟨rfl, hwy⟩
  subst hwy
  go_wp2_with fail
  refine (CImages.out).mono ?_
  rintro e wy ⟨rfl, hwy⟩
  subst hwy
  go_wp2_with fail
  refine (CForks.out).mono ?_
  rintro e wy ⟨rfl, hwy⟩
  subst hwy
  go_wp2_with fail
  refine (CRows.out).mono ?_
  rintro e wy ⟨rfl, hwy⟩
  subst hwy
  clear HST CBytes CHashes CIds CTexts CInts CEntries CEdits COps CSpans CCredits CRights CUpdates CNodes CPatches CImages CForks CRows
  go_wp2_with (first | (refine wpList_build_row rfl 43 rfl (bkC (.slice none 0 0)) hbBk ?_) | (refine wpList_store_row rfl 43 (.tmp 76) (.tmp 75) rfl q (bkC (.slice none 0 0)) rfl rfl 43 (bkC (.slice (some ⟨B, 0, none⟩) N cB)) hq1 (hsBk.trans rfl) rfl (hone _ rfl) ?_) | fail)
  go_ret
  exact ⟨rfl, b1.trans (below_setRowX _ _ _ _ hbq), fun k hk hkq hi => (setRow_other _ _ _ _ hkq).trans (FR.out k hk hi)⟩
end Go.Proofs.YthffcdahjcpdfaaGreatDoor.B

