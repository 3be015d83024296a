import Derived.Test.YtgnichmemkglkaaDoorQQs
import Derived.Ground.NamesProg
import Derived.Shelf.Utf8.AppendRunePlain
namespace Go.Proofs.YtgnichmemkglkaaDoor.Q
open Go.Shelf Go.RowKit
def laysApp_ren : Go.Shelf.Ren := ⟨fun | 242 => 56 | 278 => 65 | n => n, fun | 37 => 36 | 21 => 21 | 51 => 101 | 4 => 4 | 5 => 5 | 46 => 80 | n => n, fun | n => n⟩
theorem laysApp : Lays.n242 Tryd.prog laysApp_ren := {
  mixed := by kernel_rfl
  f242 := Tryd.func56.trans (congrArg some (by kernel_rfl))
  f278 := Tryd.func65.trans (congrArg some (by kernel_rfl))
  t4 := Tryd.underlying4
  a4 := Tryd.isAgg4
  z4 := Tryd.sizeOf4
  v4 := Tryd.zeroValue4
  t5 := Tryd.underlying5
  a5 := Tryd.isAgg5
  z5 := Tryd.sizeOf5
  v5 := Tryd.zeroValue5
  t21 := Tryd.underlying21
  a21 := Tryd.isAgg21
  z21 := Tryd.sizeOf21
  v21 := Tryd.zeroValue21
  t37 := Tryd.underlying36
  a37 := Tryd.isAgg36
  z37 := Tryd.sizeOf36
  v37 := Tryd.zeroValue36
  t46 := Tryd.underlying80
  a46 := Tryd.isAgg80
  z46 := Tryd.sizeOf80
  v46 := Tryd.zeroValue80
  t51 := Tryd.underlying101
  a51 := Tryd.isAgg101
  z51 := Tryd.sizeOf101
  v51 := Tryd.zeroValue101 }

theorem cells_of_rune (r : Int) (h0 : 0 ≤ r) (h1 : r ≤ 1114111) : Lib.runeCells r = byC (Lib.encodeRune r) := by
  unfold Lib.runeCells Lib.encodeRune byC
  rw [List.map_map]
  apply List.map_congr_left
  intro x hx
  have hb : 0 ≤ x ∧ x < 256 := by
    unfold Lib.encodeRuneZ at hx
    split at hx
    · simp at hx; omega
    · split at hx
      · simp at hx; omega
      · split at hx
        · simp at hx; omega
        · split at hx
          · simp at hx; omega
          · simp at hx; omega
  simp only [Function.comp]
  congr 1
  rw [Nat.toUInt8, UInt8.toNat_ofNat']
  omega
theorem own_iter_ne {w : World} {base q : Nat} {v : Value} {L : List UInt8} {s : ByteArray} {p : Nat} (h : OwnB w base v L) (hq : w.heap[q]? = some (.stringIter s p)) : v.ownBlock ≠ some q := by
  intro e
  rcases h.2 with ⟨rfl, _⟩ | ⟨g, cap, cur, rfl, hbg, hg, rest⟩
  · simp [Value.ownBlock] at e
  · simp [Value.ownBlock] at e
    subst e
    rw [hq] at hg
    cases hg
theorem iter_grown {w w' : World} {base q : Nat} {v : Value} {L : List UInt8} {s : ByteArray} {p : Nat} (h : OwnB w base v L) (gr : w.grownBy w' v.ownBlock) (hq : w.heap[q]? = some (.stringIter s p)) : w'.heap[q]? = some (.stringIter s p) :=
  (gr.block q (Array.getElem?_eq_some_iff.1 hq).1 (fun e => own_iter_ne h hq e.symm)).trans hq
theorem iter_alloc {w : World} {q : Nat} {o : Obj} {s : ByteArray} {p : Nat} (hq : w.heap[q]? = some (.stringIter s p)) : (w.alloc o).heap[q]? = some (.stringIter s p) := by
  rw [Below.heap_alloc _ _ _ (Array.getElem?_eq_some_iff.1 hq).1]; exact hq
theorem apprune_any (base : Nat) (v : Value) (L : List UInt8) (r : Int) (w : World) (h0 : 0 ≤ r) (h1 : r ≤ 1114111) (hown : OwnB w base v L) (hlen : L.length + 4 ≤ 140737488355328) (hb : base ≤ w.heap.size) (q : Nat) (s0 : ByteArray) (p0 : Nat) (hq : w.heap[q]? = some (.stringIter s0 p0)) :
    Calls Tryd.prog 56 #[v, .int .i32 r] w fun e w' => ∃ v', e = .returned v' ∧ OwnB w' base v' (L ++ Lib.encodeRune r) ∧ Below base w w' ∧ w'.heap[q]? = some (.stringIter s0 p0) := by
  refine (Any.utf8_AppendRune_plain laysApp Tryd.info5 base v L.length (byC L) r (by omega) (by omega) w hown hlen hb).mono ?_
  rintro e w' ⟨v', he, ho, o, gr⟩
  refine ⟨v', he, ?_, ?_, ?_⟩
  · unfold OwnB
    rw [List.length_append, show byC (L ++ Lib.encodeRune r) = byC L ++ byC (Lib.encodeRune r) by simp [byC], ← cells_of_rune r h0 h1, ← Lib.runeCells_length]
    exact ho
  · exact ((Below.refl base w).alloc hb o).grown gr (by simp; omega) (fun k hk => (World.ownsRow.lt hown k hk).1)
  · exact (gr.block q (by have := (Array.getElem?_eq_some_iff.1 hq).1; simp; omega) (fun e => own_iter_ne hown hq e.symm)).trans (iter_alloc hq)
end Go.Proofs.YtgnichmemkglkaaDoor.Q
