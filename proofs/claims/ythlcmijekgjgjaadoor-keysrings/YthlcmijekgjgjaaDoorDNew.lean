import Derived.Test.YthlcmijekgjgjaaDoorDPad
namespace Go.Proofs.YthlcmijekgjgjaaDoor
open Go.RowKit
set_option linter.unusedVariables false
set_option linter.unusedSimpArgs false

def z64 : List UInt8 := List.replicate 64 0
theorem built62 : Tryd.prog.built 56 [(0, .agg (ws first.list))] = some (hc first z64 0) := by kernel_rfl
def FirstAt (w : World) : Prop := ∀ j, j < 8 → w.cell? ⟨1, j, none⟩ = some (.int .u32 (U (first.list.getD j 0)))
theorem first_range {w : World} (h : FirstAt w) : w.rangeAt 1 0 (ws first.list).toList := fun j v hj => by
  have hj8 : j < 8 := by have := (List.getElem?_eq_some_iff.1 hj).1; simpa [ws, S8.list] using this
  rw [Nat.zero_add, h j hj8]
  have := ws_get first.list j (by simpa [S8.list] using hj8)
  rw [← Array.getElem?_toList] at this
  rw [← this]
  exact hj
theorem wpList_build_one {P : Program} {ops : Array Oper} {rest : List Oper} {o : Oper} {a : Act} {w : World} {Q : Exit → Act → World → Prop} (hgd : o.guard = none) (ty : TypeId) (i : Nat) (x : Operand) (ho : o.op = .build ty #[(i, x)])
    (v : Value) (hv : a.eval x = v) (Z : Array Value) (hz : P.built ty [(i, v)] = some Z)
    (h : wpList P ops Q rest (a.put o.dst (.agg Z)) w) : wpList P ops Q (o :: rest) a w := by
  subst hv
  refine wpList_build hgd ty #[(i, x)] ho (by simp [hz]) ?_
  simpa [hz] using h

set_option maxHeartbeats 800000 in
theorem new_any (w : World) (hF : FirstAt w) :
    Calls Tryd.prog 11 #[] w fun e w' => e = .returned (.pointer (some ⟨w.heap.size, 0, none⟩)) ∧ w' = w.alloc (.cells (hc first z64 0) 56) := by
  go_enter Tryd.func11, Tryd.ntmps11
  go_wp2_with (first | (refine wpList_load_mid rfl 52 (.global 1) rfl 1 0 rfl (ws first.list).toList _ (first_range hF) Tryd.underlying52 rfl (by exact hs58) ?_) | (refine wpList_build_one rfl 56 0 _ rfl (.agg (ws first.list)) rfl (hc first z64 0) built62 ?_))
  go_ret
  exact ⟨rfl, rfl⟩

theorem rep_new (w : World) : Rep (w.alloc (.cells (hc first z64 0) 56)) w.heap.size [] :=
  ⟨z64, heap_alloc_new _ _, rfl, rfl⟩
end Go.Proofs.YthlcmijekgjgjaaDoor
