import Derived.Test.YthlcmijekgjgjaaDoorDHash
namespace Go.Proofs.YthlcmijekgjgjaaDoor
open Go.RowKit
set_option linter.unusedVariables false
set_option linter.unusedSimpArgs false

def first : S8 := ⟨0x6a09e667, 0xbb67ae85, 0x3c6ef372, 0xa54ff53a, 0x510e527f, 0x9b05688c, 0x1f83d9ab, 0x5be0cd19⟩
/-- The state behind k blocks. -/
def stN (m : List UInt8) : Nat → S8
  | 0 => first
  | k + 1 => (stN m k).mix ((m.drop (64 * k)).take 64)

theorem stN_app (m l : List UInt8) (k : Nat) (h : 64 * k ≤ m.length) : stN (m ++ l) k = stN m k := by
  induction k with
  | zero => rfl
  | succ k ih =>
    simp only [stN]
    rw [ih (by omega), List.drop_append_of_le_length (by omega), List.take_append_of_le_length (by simp; omega)]

/-- A Hasher at block g that was written m. -/
def Rep (w : World) (g : Nat) (m : List UInt8) : Prop :=
  ∃ bl : List UInt8, w.heap[g]? = some (.cells (hc (stN m (m.length / 64)) bl (m.length : Int)) 56 (0, 0)) ∧ bl.length = 64 ∧ bl.take (m.length % 64) = m.drop (64 * (m.length / 64))

/-- All but block g is as it was. -/
structure But (g : Nat) (w w' : World) : Prop where
  os : w'.os = w.os
  tape : w'.tape = w.tape
  output : w'.output = w.output
  size : w.heap.size ≤ w'.heap.size
  block : ∀ k, k < w.heap.size → k ≠ g → w'.heap[k]? = w.heap[k]?

theorem But.refl (g : Nat) (w : World) : But g w w := ⟨rfl, rfl, rfl, Nat.le_refl _, fun _ _ _ => rfl⟩
theorem But.trans {g : Nat} {a b c : World} (h : But g a b) (k : But g b c) : But g a c :=
  ⟨k.os.trans h.os, k.tape.trans h.tape, k.output.trans h.output, Nat.le_trans h.size k.size, fun i hi hg => (k.block i (by have := h.size; omega) hg).trans (h.block i hi hg)⟩
theorem But.setCell {g : Nat} {a w : World} (h : But g a w) (j : Nat) (v : Value) : But g a (w.setCell ⟨g, j, none⟩ v) :=
  h.trans ⟨rfl, rfl, rfl, by simp [World.setCell], fun k hk hg => Below.heap_setCell _ _ _ _ hg⟩
theorem But.setRow {g : Nat} {a w : World} (h : But g a w) (cs : Array Value) : But g a (w.setRow g cs) :=
  h.trans ⟨rfl, rfl, rfl, by simp, fun k hk hg => setRow_other w g k cs hg⟩
theorem But.drew {g : Nat} {a w : World} (h : But g a w) : But g a w.drew := ⟨h.os, h.tape, h.output, h.size, h.block⟩
theorem But.drewN {g : Nat} {a w : World} (h : But g a w) (n : Nat) : But g a (w.drewN n) := ⟨h.os, h.tape, h.output, h.size, h.block⟩
theorem But.alloc {g : Nat} {a w : World} (h : But g a w) (o : Obj) : But g a (w.alloc o) :=
  h.trans ⟨rfl, rfl, rfl, by simp, fun k hk hg => Below.heap_alloc _ _ _ hk⟩
theorem But.of_below {g : Nat} {a w : World} (h : Below a.heap.size a w) : But g a w := ⟨h.os, h.tape, h.output, h.size, fun k hk _ => h.block k hk⟩
theorem But.below {g B : Nat} {a w : World} (h : But g a w) (hB : B ≤ a.heap.size) (hg : B ≤ g) : Below B a w := ⟨h.os, h.tape, h.output, h.size, fun k hk => h.block k (by omega) (by omega)⟩
theorem But.cell {g : Nat} {w w' : World} (h : But g w w') {p : Addr} (hp : p.block < w.heap.size) (hg : p.block ≠ g) : w'.cell? p = w.cell? p := World.cell?_of_block (w := w) (h.block p.block hp hg)
theorem But.byt {g : Nat} {w w' : World} (h : But g w w') {a : Option Addr} {l : List UInt8} (hb : Byt w a l) (hg : ∀ b off, a = some ⟨b, off, none⟩ → b ≠ g) : Byt w' a l := by
  rcases hb with rfl | ⟨b, off, rfl, hc⟩
  · exact .inl rfl
  · exact .inr ⟨b, off, rfl, fun j hj => (h.cell (p := ⟨b, off + j, none⟩) (block_lt_of_cell (hc j hj)) (hg b off rfl)).trans (hc j hj)⟩
theorem But.keys {g : Nat} {w w' : World} (h : But g w w') (hK : KeysAt w) (hg : g ≠ 3) : KeysAt w' := fun j hj =>
  (h.cell (p := ⟨3, j, none⟩) (block_lt_of_cell (hK j hj)) (fun e => hg e.symm)).trans (hK j hj)
theorem Byt.drop {w : World} {b off : Nat} {l : List UInt8} (hc : ∀ j, j < l.length → w.cell? ⟨b, off + j, none⟩ = some (.int .u8 (at8 l j))) (c : Nat) : ∀ j, j < (l.drop c).length → w.cell? ⟨b, off + c + j, none⟩ = some (.int .u8 (at8 (l.drop c) j)) := fun j hj => by
  have e : at8 (l.drop c) j = at8 l (c + j) := by simp [at8]
  rw [e, show off + c + j = off + (c + j) by omega]
  exact hc (c + j) (by simp at hj; omega)
end Go.Proofs.YthlcmijekgjgjaaDoor
