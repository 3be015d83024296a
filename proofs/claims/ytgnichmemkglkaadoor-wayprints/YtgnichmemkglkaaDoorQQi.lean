import Derived.Test.YtgnichmemkglkaaDoorQQm
import Derived.Test.YtgnichmemkglkaaDoorQLv
import Derived.Laws.RangeAny
import Derived.Laws.MakeOwn
namespace Go.Proofs.YtgnichmemkglkaaDoor.Q
open Go.RowKit
set_option linter.unusedVariables false
set_option linter.unusedSimpArgs false

/-- The world with its iterator moved. -/
def setIter (w : World) (q : Nat) (s : ByteArray) (p : Nat) : World := { w with heap := w.heap.setIfInBounds q (.stringIter s p) }
theorem setIter_at {w : World} {q : Nat} {s : ByteArray} {p0 p : Nat} (h : w.heap[q]? = some (.stringIter s p0)) : (setIter w q s p).heap[q]? = some (.stringIter s p) := by
  have hq := (Array.getElem?_eq_some_iff.1 h).1
  simp [setIter, hq]
theorem setIter_other {w : World} {q k : Nat} {s : ByteArray} {p : Nat} (h : k ≠ q) : (setIter w q s p).heap[k]? = w.heap[k]? := by
  simp [setIter, Array.getElem?_setIfInBounds, h.symm]
theorem setIter_size (w : World) (q : Nat) (s : ByteArray) (p : Nat) : (setIter w q s p).heap.size = w.heap.size := by simp [setIter]
theorem setIter_below {w0 w : World} {base q : Nat} {s : ByteArray} {p : Nat} (h : Below base w0 w) (hq : base ≤ q) : Below base w0 (setIter w q s p) :=
  ⟨h.os, h.tape, h.output, by rw [setIter_size]; exact h.size, fun k hk => by rw [setIter_other (by omega)]; exact h.block k hk⟩
theorem setIter_own {w : World} {base q : Nat} {s : ByteArray} {p : Nat} {v : Value} {L : List UInt8} (h : OwnB w base v L) (hq : v.ownBlock ≠ some q) : OwnB (setIter w q s p) base v L := by
  refine ⟨h.1, ?_⟩
  rcases h.2 with hn | ⟨g, cap, cur, rfl, hbg, hg, rest⟩
  · exact .inl hn
  · refine .inr ⟨g, cap, cur, rfl, hbg, ?_, rest⟩
    rw [setIter_other (fun e => hq (by simp [Value.ownBlock]; exact e))]
    exact hg
theorem next_some (w : World) (q : Nat) (s : ByteArray) (pos : Nat) (ty : TypeId) (hq : w.heap[q]? = some (.stringIter s pos)) (h : pos < s.size) :
    (Instr.next (.pointer (some ⟨q, 0, none⟩)) true ty).run Tryd.prog w = .ok (.tuple #[.bool true, .int .i64 pos, .int .i32 ((Lib.decodeL (s.data.toList.drop pos)).1 : Nat)]) (setIter w q s (pos + (Lib.decodeL (s.data.toList.drop pos)).2)) := by
  rw [← decode_drop]
  simp [Instr.next, getObj, setObj, Sem.run, hq, h, goInt, setIter]
theorem next_none (w : World) (q : Nat) (s : ByteArray) (pos : Nat) (ty : TypeId) (hq : w.heap[q]? = some (.stringIter s pos)) (h : ¬ pos < s.size) :
    (Instr.next (.pointer (some ⟨q, 0, none⟩)) true ty).run Tryd.prog w = .ok (.tuple #[.bool false]) w := by
  simp [Instr.next, getObj, Sem.run, hq, h]
end Go.Proofs.YtgnichmemkglkaaDoor.Q
