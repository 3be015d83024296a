import Derived.Test.YtkinjcblngkeiaaDoorWe
namespace Go.Proofs.YtkinjcblngkeiaaDoor
open Go.RowKit
set_option linter.unusedVariables false
set_option linter.unusedSimpArgs false

theorem Tabs.frw {w w' : World} {p : Nat} {g : Option Nat} (h : Tabs w) (hb : FrW p g w w') (hp : 4 ≤ p) (hg : ∀ k, g = some k → 4 ≤ k) : Tabs w' := by
  have hc : ∀ (b o : Nat) (v : Value), b < 4 → w.cell? ⟨b, o, none⟩ = some v → w'.cell? ⟨b, o, none⟩ = some v := fun b o v hb4 hcv => by
    have hlt := block_lt_of_cell hcv
    have e : w'.cell? ⟨b, o, none⟩ = w.cell? ⟨b, o, none⟩ := by
      unfold World.cell?
      rw [hb.block b hlt (by omega) (fun e => by have := hg b e.symm; omega)]
    rw [e, hcv]
  exact ⟨fun c hcc => hc 2 c _ (by decide) (h.1 c hcc), fun i hi => ⟨hc 3 _ _ (by decide) (h.2 i hi).1, hc 3 _ _ (by decide) (h.2 i hi).2⟩⟩
/-- A right value's bytes. -/
def wv (k n : Int) (f : Nat) (s : ByteArray) : List UInt8 :=
  UInt8.ofNat k.toNat :: (if k = 1 then [if n = 1 then 1 else 0] else if k = 2 ∨ k = 7 then vint (zig n) else if k = 3 then b8 f else if k = 4 ∨ k = 5 then vint s.size ++ s.data.toList else if k = 6 then vint n.toNat else [])
abbrev bx (k n : Int) (f : Nat) (s : ByteArray) : Array Value := #[.int .u8 k, .int .i64 n, .float .f64 f, .string s]
section
variable {p : Nat} {g : Option Nat} {M : List UInt8} {e : Int} {T : TypeId}
theorem lift_wr {W0 : World} {fn : Nat} {args : Array Value} {B : List UInt8} (hsum : M.length + 2000 ≤ 140737488355328)
    (h : ∀ wx g1 M1, FrW p g W0 wx → WS wx T p g1 M1 e → M1.length + 1900 ≤ 140737488355328 → Calls Tryd.prog fn args wx fun x w' => x = .returned (.tuple #[]) ∧ Wr wx w' T p g1 (wA M1 e B) e) (wx : World) (P : List UInt8) (hP : P.length ≤ 50) (hx : Wr W0 wx T p g (wA M e P) e) :
    Calls Tryd.prog fn args wx fun x w' => x = .returned (.tuple #[]) ∧ Wr W0 w' T p g (wA M e (P ++ B)) e := by
  obtain ⟨g1, ws, fr, nw⟩ := hx
  refine (h wx g1 _ fr ws (by have := wA_len M e P; omega)).mono fun x w' h => ?_
  rw [wA_wA] at h
  exact ⟨h.1, Wr.step fr nw h.2⟩
theorem box_cells {w wx : World} {k n : Int} {f : Nat} {s : ByteArray} {M' : List UInt8} {e' : Int} (hw : WS w T p g M e) (hx : Wr (w.alloc (.cells (bx k n f s) 34)) wx T p g M' e') : wx.cell? ⟨w.heap.size, 0, none⟩ = some (.int .u8 k) ∧ wx.cell? ⟨w.heap.size, 1, none⟩ = some (.int .i64 n) ∧ wx.cell? ⟨w.heap.size, 2, none⟩ = some (.float .f64 f) ∧ wx.cell? ⟨w.heap.size, 3, none⟩ = some (.string s) := by
  obtain ⟨g1, ws, fr, nw⟩ := hx
  have hb : wx.heap[w.heap.size]? = some (.cells (bx k n f s) 34 (0, 0)) := by
    rw [fr.block w.heap.size (by simp) (by have := hw.lt; omega) (fun h => by have := hw.glt h.symm; omega)]
    exact heap_alloc_new _ _
  exact ⟨(cell_of_row wx w.heap.size 0 _ _ _ hb).trans rfl, (cell_of_row wx w.heap.size 1 _ _ _ hb).trans rfl, (cell_of_row wx w.heap.size 2 _ _ _ hb).trans rfl, (cell_of_row wx w.heap.size 3 _ _ _ hb).trans rfl⟩
theorem start_wr {w w1 : World} {cs : Array Value} (hw : WS w T p g M e) (b1 : Below (w.alloc (.cells cs 34)).heap.size (w.alloc (.cells cs 34)) w1) : Wr (w.alloc (.cells cs 34)) w1 T p g (wA M e []) e := by
  rw [wA_nil]
  exact ((hw.below (bel_box w cs 34)).wr).post b1
end
end Go.Proofs.YtkinjcblngkeiaaDoor
