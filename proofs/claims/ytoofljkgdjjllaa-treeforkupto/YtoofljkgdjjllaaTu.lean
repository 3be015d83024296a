import Derived.Test.YtoofljkgdjjllaaTt
namespace Go.Proofs.Ytoofljkgdjjllaa
open Go.RowKit
set_option linter.unusedVariables false
set_option linter.unusedSimpArgs false

set_option maxRecDepth 100000 in
set_option maxHeartbeats 2000000 in
theorem undo_none (s : Tr) (H : List Rec) (w : World) (h : TreeAt w s H) :
    Calls Try.prog 18 #[.pointer (some ⟨s.t, 0, none⟩), .pointer none] w fun e w' => e = .returned (.int .i64 2) ∧ Below w.heap.size w w' := by
  go_enter Try.func18, Try.ntmps18
  go_wp2
  go_ret
  exact ⟨rfl, Below.refl _ _⟩
set_option maxRecDepth 100000 in
set_option maxHeartbeats 2000000 in
theorem undo_nil (b : Option Addr) (w : World) :
    Calls Try.prog 18 #[.pointer none, .pointer b] w fun e w' => e = .returned (.int .i64 1) ∧ Below w.heap.size w w' := by
  go_enter Try.func18, Try.ntmps18
  go_wp2
  go_ret
  exact ⟨rfl, Below.refl _ _⟩
theorem Hist.back {w : World} {r : Rec} {l : Option Addr} (h : Rec.at w r l) : ∃ c, w.heap[r.bk]? = some (.cells c 103 (0, 0)) := by
  unfold Rec.at at h
  cases e : r.o with
  | none => rw [e] at h; exact ⟨_, h.1⟩
  | some n => rw [e] at h; exact ⟨_, h.1⟩
theorem neq_other {w : World} {s : Tr} {H : List Rec} {b : Nat} {c : Array Value} (h : TreeAt w s H) (hb : w.heap[b]? = some (.cells c 103 (0, 0))) (hn : some ⟨b, 0, none⟩ ≠ ptr H) : (binOp .neq 45 (.pointer (some ⟨b, 0, none⟩)) (.pointer s.last)).run Try.prog w = .ok (.bool true) w := by
  obtain ⟨j, hj, hs⟩ := back_info
  rw [h.last]
  cases H with
  | nil => exact run_neq_ptr_none w _ Try.underlying45
  | cons r t =>
    obtain ⟨c', hc'⟩ := Hist.back h.hist.1
    exact run_neq_ptr_other w Try.underlying45 hj hs (fun e => hn (by rw [e]; rfl)) hb hc'
set_option maxRecDepth 100000 in
set_option maxHeartbeats 2000000 in
theorem undo_no (s : Tr) (H : List Rec) (b : Nat) (c : Array Value) (w : World) (h : TreeAt w s H) (hb : w.heap[b]? = some (.cells c 103 (0, 0))) (hn : some ⟨b, 0, none⟩ ≠ ptr H) :
    Calls Try.prog 18 #[.pointer (some ⟨s.t, 0, none⟩), .pointer (some ⟨b, 0, none⟩)] w fun e w' => e = .returned (.int .i64 2) ∧ Below w.heap.size w w' := by
  have c2 := h.tr.c2
  have hq := neq_other h hb hn
  clear hb hn
  go_enter Try.func18, Try.ntmps18
  go_wp2_with (first
    | (refine wpList_val rfl (exec_binOp rfl rfl rfl (guard_back _ _ _ _ _ _) hq) ?_)
    | fail)
  go_ret
  exact ⟨rfl, Below.refl _ _⟩
end Go.Proofs.Ytoofljkgdjjllaa
