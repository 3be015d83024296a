import Derived.Test.YtdajeabhhkgibaaKSp
namespace Go.Proofs.Ytdajeabhhkgibaa.K
open Go.RowKit
set_option linter.unusedVariables false
set_option linter.unusedSimpArgs false

/-- An address within a row, or none. -/
def Plain (a : Option Addr) (r : Nat) : Prop := ∀ ad, a = some ad → ad.spot = none ∧ ad.block ≠ r
def from23 (a : Option Addr) (cap k : Nat) : Option Addr := if cap = k then a else a.map (·.add k)
theorem sl_from (a : Option Addr) (n cap k : Nat) (kk : Int) (hkk : kk = (k : Int)) (h : k ≤ n) (w : World) :
    (Instr.sliceAt 53 (.slice a n cap) (some (.int .i64 kk)) none none).run Try.prog w = .ok (.slice (from23 a cap k) (n - k) (cap - k)) w := by
  subst hkk
  obtain ⟨i, hi, _, hs, _⟩ := info5'
  rw [run_sliceAt_slice w _ _ _ _ _ hu27, run_slice_l w _ _ _ _ hu27 .i64 _ (by omega) (by omega), he27]
  simp [sizeOf, typeInfo, hi, hs, sliced, from23]
theorem sl_from' (a : Option Addr) (n cap k : Nat) (kk : Int) (hkk : kk = (k : Int)) (h : k ≤ n) (w : World) :
    (Instr.slice 53 (.slice a n cap) (some (.int .i64 kk)) none none).run Try.prog w = .ok (.slice (from23 a cap k) (n - k) (cap - k)) w :=
  (run_sliceAt_slice w _ _ _ _ _ hu27).symm.trans (sl_from a n cap k kk hkk h w)
theorem sl_mid (a : Option Addr) (n cap j k : Nat) (jj kk : Int) (hjj : jj = (j : Int)) (hkk : kk = (k : Int)) (hj : j ≤ k) (h : k ≤ cap) (w : World) :
    (Instr.sliceAt 53 (.slice a n cap) (some (.int .i64 jj)) (some (.int .i64 kk)) none).run Try.prog w = .ok (.slice (from23 a cap j) (k - j) (cap - j)) w := by
  subst hjj hkk
  obtain ⟨i, hi, _, hs, _⟩ := info5'
  rw [run_sliceAt_slice w _ _ _ _ _ hu27, run_slice_lh w _ _ _ _ hu27 .i64 .i64 _ _ (by omega) (by omega) (by omega), he27]
  simp [sizeOf, typeInfo, hi, hs, sliced, from23]
theorem sl_mid' (a : Option Addr) (n cap j k : Nat) (jj kk : Int) (hjj : jj = (j : Int)) (hkk : kk = (k : Int)) (hj : j ≤ k) (h : k ≤ cap) (w : World) :
    (Instr.slice 53 (.slice a n cap) (some (.int .i64 jj)) (some (.int .i64 kk)) none).run Try.prog w = .ok (.slice (from23 a cap j) (k - j) (cap - j)) w :=
  (run_sliceAt_slice w _ _ _ _ _ hu27).symm.trans (sl_mid a n cap j k jj kk hjj hkk hj h w)
theorem byt_from {w : World} {a : Option Addr} {l : List UInt8} (h : Byt w a l) (cap k : Nat) (hc : l.length ≤ cap) : Byt w (from23 a cap k) (l.drop k) := by
  by_cases hk : k < l.length
  · rcases h with rfl | ⟨b, off, rfl, hcell⟩
    · simp at hk
    · refine .inr ⟨b, off + k, ?_, fun j hj => ?_⟩
      · unfold from23
        rw [if_neg (by omega)]
        simp [Addr.add_mid]
      · rw [at8_drop, Nat.add_assoc]
        rw [List.length_drop] at hj
        exact hcell (k + j) (by omega)
  · exact .inl (List.drop_of_length_le (by omega))
theorem byt_take {w : World} {a : Option Addr} {l : List UInt8} (h : Byt w a l) (n : Nat) : Byt w a (l.take n) := by
  rcases h with rfl | ⟨b, off, rfl, hcell⟩
  · exact .inl (by simp)
  · refine .inr ⟨b, off, rfl, fun j hj => ?_⟩
    rw [List.length_take] at hj
    rw [at8_take _ _ _ (by omega)]
    exact hcell j (by omega)
theorem plain_from {a : Option Addr} {r : Nat} (h : Plain a r) (cap k : Nat) : Plain (from23 a cap k) r := by
  intro ad e
  unfold from23 at e
  split at e
  · exact h ad e
  · cases a with
    | none => cases e
    | some x =>
      obtain ⟨h1, h2⟩ := h x rfl
      obtain ⟨b, off, p⟩ := x
      simp only at h1 h2
      subst h1
      simp [Addr.add_mid] at e
      subst e
      exact ⟨rfl, h2⟩

/-- All but one block is as it was; new ones may have come. -/
structure Fr (r : Nat) (w w' : World) : Prop where
  os : w'.os = w.os
  tape : w'.tape = w.tape
  output : w'.output = w.output
  size : w.heap.size ≤ w'.heap.size
  block : ∀ k, k < w.heap.size → k ≠ r → w'.heap[k]? = w.heap[k]?
theorem Fr.refl (r : Nat) (w : World) : Fr r w w := ⟨rfl, rfl, rfl, Nat.le_refl _, fun _ _ _ => rfl⟩
theorem Fr.trans {r : Nat} {a b c : World} (h : Fr r a b) (k : Fr r b c) : Fr r a c :=
  ⟨k.os.trans h.os, k.tape.trans h.tape, k.output.trans h.output, Nat.le_trans h.size k.size, fun i hi hr => (k.block i (by have := h.size; omega) hr).trans (h.block i hi hr)⟩
theorem Fr.drew (r : Nat) (w : World) (m : Nat) : Fr r w (w.drewN m) := by
  have := below_drewN (Below.refl w.heap.size w) m
  exact ⟨this.os, this.tape, this.output, this.size, fun i hi _ => this.block i hi⟩
theorem Fr.of_below {r : Nat} {w w' : World} (h : Below w.heap.size w w') : Fr r w w' := ⟨h.os, h.tape, h.output, h.size, fun i hi _ => h.block i hi⟩
theorem Fr.set (r : Nat) (w : World) (p : Addr) (hp : p.block = r) (v : Value) : Fr r w (w.setCell p v) := by
  have := (Below.refl 0 w).setCell (p := p) (Nat.zero_le _) v
  exact ⟨this.os, this.tape, this.output, this.size, fun i hi hr => Below.heap_setCell _ _ _ _ (by omega)⟩
theorem Fr.below {r : Nat} {w w' : World} (h : Fr r w w') (B : Nat) (hB : B ≤ r) (hw : B ≤ w.heap.size) : Below B w w' :=
  ⟨h.os, h.tape, h.output, h.size, fun k hk => h.block k (by omega) (by omega)⟩
theorem Fr.cell {r : Nat} {w w' : World} (h : Fr r w w') {p : Addr} {v : Value} (hp : p.block ≠ r) (hc : w.cell? p = some v) : w'.cell? p = some v := by
  have hlt := block_lt_of_cell hc
  have := h.block p.block hlt hp
  have e : w'.cell? p = w.cell? p := by unfold World.cell?; rw [this]
  rw [e, hc]
theorem Fr.byt {r : Nat} {w w' : World} (h : Fr r w w') {a : Option Addr} {l : List UInt8} (hp : Plain a r) (hb : Byt w a l) : Byt w' a l := by
  rcases hb with rfl | ⟨b, off, rfl, hc⟩
  · exact .inl rfl
  · exact .inr ⟨b, off, rfl, fun j hj => h.cell (p := ⟨b, off + j, none⟩) (hp _ rfl).2 (hc j hj)⟩

/-- A Reader (of either side): its four cells. -/
structure RD (w : World) (T : TypeId) (r : Nat) (a : Option Addr) (cap : Nat) (L : List UInt8) (s : St) : Prop where
  row : w.heap[r]? = some (.cells #[.slice a L.length cap, .int .i64 (s.k : Int), .int .i64 s.bad, .int .i64 s.wh] T (0, 0))
  room : L.length ≤ cap
  byt : Byt w a L
  plain : Plain a r
  at_le : s.k ≤ L.length
  few : L.length ≤ 140737488351232
theorem RD.c0 {w : World} {T : TypeId} {r cap : Nat} {a : Option Addr} {L : List UInt8} {s : St} (h : RD w T r a cap L s) : w.cell? ⟨r, 0, none⟩ = some (.slice a L.length cap) := (cell_of_row w r 0 _ _ _ h.row).trans rfl
theorem RD.c1 {w : World} {T : TypeId} {r cap : Nat} {a : Option Addr} {L : List UInt8} {s : St} (h : RD w T r a cap L s) : w.cell? ⟨r, 1, none⟩ = some (.int .i64 (s.k : Int)) := (cell_of_row w r 1 _ _ _ h.row).trans rfl
theorem RD.c2 {w : World} {T : TypeId} {r cap : Nat} {a : Option Addr} {L : List UInt8} {s : St} (h : RD w T r a cap L s) : w.cell? ⟨r, 2, none⟩ = some (.int .i64 s.bad) := (cell_of_row w r 2 _ _ _ h.row).trans rfl
theorem RD.c3 {w : World} {T : TypeId} {r cap : Nat} {a : Option Addr} {L : List UInt8} {s : St} (h : RD w T r a cap L s) : w.cell? ⟨r, 3, none⟩ = some (.int .i64 s.wh) := (cell_of_row w r 3 _ _ _ h.row).trans rfl
theorem RD.fz {w : World} {T : TypeId} {r cap : Nat} {a : Option Addr} {L : List UInt8} {s : St} (h : RD w T r a cap L s) (k : Nat) : w.frozen? ⟨r, k, none⟩ = false := frozen_of_row w r k _ _ h.row
theorem RD.lt {w : World} {T : TypeId} {r cap : Nat} {a : Option Addr} {L : List UInt8} {s : St} (h : RD w T r a cap L s) : r < w.heap.size := (Array.getElem?_eq_some_iff.1 h.row).1
theorem RD.drew {w : World} {T : TypeId} {r cap : Nat} {a : Option Addr} {L : List UInt8} {s : St} (h : RD w T r a cap L s) (m : Nat) : RD (w.drewN m) T r a cap L s := ⟨h.row, h.room, h.byt, h.plain, h.at_le, h.few⟩
theorem RD.set1 {w : World} {T : TypeId} {r cap : Nat} {a : Option Addr} {L : List UInt8} {s : St} (h : RD w T r a cap L s) (k' : Nat) (kk : Int) (hkk : kk = (k' : Int)) (hk : k' ≤ L.length) : RD (w.setCell ⟨r, 1, none⟩ (.int .i64 kk)) T r a cap L ⟨k', s.bad, s.wh⟩ := by
  subst hkk
  exact ⟨by rw [heap_setCell_same w r 1 _ T _ h.row]; rfl, h.room, (Fr.set r w ⟨r, 1, none⟩ rfl _).byt h.plain h.byt, h.plain, hk, h.few⟩
theorem RD.set23 {w : World} {T : TypeId} {r cap : Nat} {a : Option Addr} {L : List UInt8} {s : St} (h : RD w T r a cap L s) (e p : Int) : RD ((w.setCell ⟨r, 2, none⟩ (.int .i64 e)).setCell ⟨r, 3, none⟩ (.int .i64 p)) T r a cap L ⟨s.k, e, p⟩ := by
  have h1 : (w.setCell ⟨r, 2, none⟩ (.int .i64 e)).heap[r]? = some (.cells #[.slice a L.length cap, .int .i64 (s.k : Int), .int .i64 e, .int .i64 s.wh] T (0, 0)) := by rw [heap_setCell_same w r 2 _ T _ h.row]; rfl
  exact ⟨by rw [heap_setCell_same _ r 3 _ T _ h1]; rfl, h.room, (Fr.set r _ ⟨r, 3, none⟩ rfl _).byt h.plain ((Fr.set r w ⟨r, 2, none⟩ rfl _).byt h.plain h.byt), h.plain, h.at_le, h.few⟩
theorem RD.fr {w w' : World} {T : TypeId} {r q cap : Nat} {a : Option Addr} {L : List UInt8} {s : St} (h : RD w T r a cap L s) (f : Fr q w w') (hq : r ≠ q) (hp : Plain a q) : RD w' T r a cap L s :=
  ⟨by rw [f.block r h.lt hq]; exact h.row, h.room, f.byt hp h.byt, h.plain, h.at_le, h.few⟩
/-- The Reader has gone on to another state, and nothing else has changed. -/
def On (w w' : World) (T : TypeId) (r : Nat) (a : Option Addr) (cap : Nat) (L : List UInt8) (s' : St) : Prop := RD w' T r a cap L s' ∧ Fr r w w'
theorem On.trans {w w1 w2 : World} {T : TypeId} {r cap : Nat} {a : Option Addr} {L : List UInt8} {s1 s2 : St} (h : On w w1 T r a cap L s1) (k : On w1 w2 T r a cap L s2) : On w w2 T r a cap L s2 := ⟨k.1, h.2.trans k.2⟩
theorem RD.on {w : World} {T : TypeId} {r cap : Nat} {a : Option Addr} {L : List UInt8} {s : St} (h : RD w T r a cap L s) : On w w T r a cap L s := ⟨h, Fr.refl _ _⟩
theorem On.drew {w w1 : World} {T : TypeId} {r cap : Nat} {a : Option Addr} {L : List UInt8} {s : St} (h : On w w1 T r a cap L s) (m : Nat) : On w (w1.drewN m) T r a cap L s := ⟨h.1.drew m, h.2.trans (Fr.drew r w1 m)⟩
theorem On.set1 {w w1 : World} {T : TypeId} {r cap : Nat} {a : Option Addr} {L : List UInt8} {s : St} (h : On w w1 T r a cap L s) (k' : Nat) (kk : Int) (hkk : kk = (k' : Int)) (hk : k' ≤ L.length) : On w (w1.setCell ⟨r, 1, none⟩ (.int .i64 kk)) T r a cap L ⟨k', s.bad, s.wh⟩ := ⟨h.1.set1 k' kk hkk hk, h.2.trans (Fr.set r w1 _ rfl _)⟩
theorem On.set23 {w w1 : World} {T : TypeId} {r cap : Nat} {a : Option Addr} {L : List UInt8} {s : St} (h : On w w1 T r a cap L s) (e p : Int) : On w ((w1.setCell ⟨r, 2, none⟩ (.int .i64 e)).setCell ⟨r, 3, none⟩ (.int .i64 p)) T r a cap L ⟨s.k, e, p⟩ := ⟨h.1.set23 e p, (h.2.trans (Fr.set r w1 ⟨r, 2, none⟩ rfl _)).trans (Fr.set r _ ⟨r, 3, none⟩ rfl _)⟩
end Go.Proofs.Ytdajeabhhkgibaa.K
