import Derived.Test.YtkinjcblngkeiaaDoorQf
import Derived.Laws.CopyOwn
import Derived.Laws.Rows
namespace Go.Proofs.YtkinjcblngkeiaaDoor
open Go.RowKit
set_option linter.unusedVariables false
set_option linter.unusedSimpArgs false

/-- The kinds' names. -/
def nmL : List (List UInt8) := [[110, 117, 108, 108], [98, 111, 111, 108], [105, 110, 116], [102, 108, 111, 97, 116], [116, 101, 120, 116], [98, 121, 116, 101, 115], [116, 105, 109, 101], [99, 111, 117, 110, 116, 101, 114], [109, 97, 112], [108, 105, 115, 116], [115, 116, 114, 105, 110, 103], [111, 117, 116, 108, 105, 110, 101]]
def nmB (j : Nat) : ByteArray := ⟨(nmL.getD j []).toArray⟩
def nmC : Array Value := (nmL.map fun l => Value.string ⟨l.toArray⟩).toArray
def NamesAt (g : Nat) (w : World) : Prop := ∃ t fr, w.heap[g]? = some (.cells nmC t fr)
theorem nmC_at (j : Nat) (h : j < 12) : nmC[j]? = some (.string (nmB j)) := by
  simp [nmC, nmB, List.getElem?_eq_getElem (show j < nmL.length from h)]
theorem names_cell {g : Nat} {w : World} (h : NamesAt g w) (j : Nat) (hj : j < 12) : w.cell? ⟨g, j, none⟩ = some (.string (nmB j)) := by
  obtain ⟨t, fr, h⟩ := h
  exact (cell_of_row w g j _ _ _ h).trans (nmC_at j hj)
theorem NamesAt.below {g : Nat} {w w' : World} (h : NamesAt g w) (hb : Below w.heap.size w w') : NamesAt g w' := by
  obtain ⟨t, fr, h⟩ := h
  exact ⟨t, fr, by rw [hb.block _ (Array.getElem?_eq_some_iff.1 h).1]; exact h⟩

set_option maxRecDepth 100000 in
set_option maxHeartbeats 400000 in
theorem name_any (k : Nat) (w : World) (hk : k < 12) (hN : NamesAt 0 w) :
    Calls Tryd.prog 52 #[.int .u8 k] w fun e w' => e = .returned (.string (nmB k)) ∧ w' = w := by
  have h1 : ¬ (12 : Int) ≤ (k : Int) := by omega
  have hc := names_cell hN k hk
  go_enter Tryd.func52, Tryd.ntmps52
  go_wp2
  go_ret
  exact ⟨rfl, rfl⟩
set_option maxRecDepth 100000 in
set_option maxHeartbeats 400000 in
theorem name_none (k : Int) (w : World) (hk : 12 ≤ k) (hk2 : k ≤ 255) :
    Calls Tryd.prog 52 #[.int .u8 k] w fun e w' => e = .returned (.string ⟨#[]⟩) ∧ w' = w := by
  go_enter Tryd.func52, Tryd.ntmps52
  go_wp2
  go_ret
  exact ⟨rfl, rfl⟩

abbrev Z34 : Array Value := #[.int .u8 0, .int .i64 0, .float .f64 0, .string ⟨#[]⟩]
theorem inf34 (k n : Int) (f : Nat) (s : ByteArray) : (Tryd.prog.info? 34).map (·.size) = some (#[.int .u8 k, .int .i64 n, .float .f64 f, .string s] : Array Value).size := by kernel_rfl
theorem one34 (k n : Int) (f : Nat) (s : ByteArray) : (#[.int .u8 k, .int .i64 n, .float .f64 f, .string s] : Array Value).all (·.oneCell') = true := by simp [Value.oneCell']
theorem und34 : ∃ fs, Tryd.prog.underlying 34 = some (.struct fs) := by
  have h : (match Tryd.prog.underlying 34 with | some (.struct _) => true | _ => false) = true := by kernel_rfl
  revert h
  split
  · rename_i fs he; intro _; exact ⟨fs, he⟩
  · intro h; cases h
theorem res16 (tmps : Array Value) (w : World) (g : Nat) (t : TypeId) (k n : Int) (f : Nat) (s : ByteArray) (fr : Nat × Nat) (hp : tmps.getD 2 undef = .pointer (some ⟨g, 0, none⟩)) (hg : w.heap[g]? = some (.cells #[.int .u8 k, .int .i64 n, .float .f64 f, .string s] t fr)) :
    (results Tryd.f16 tmps).run Tryd.prog w = .ok (.agg #[.int .u8 k, .int .i64 n, .float .f64 f, .string s]) w := by
  obtain ⟨fs, hu⟩ := und34
  exact results_cell_row Tryd.results16 tmps w g t _ fr _ hp hg hu rfl (inf34 _ _ _ _)
theorem res18 (tmps : Array Value) (w : World) (g : Nat) (t : TypeId) (k n : Int) (f : Nat) (s : ByteArray) (fr : Nat × Nat) (hp : tmps.getD 2 undef = .pointer (some ⟨g, 0, none⟩)) (hg : w.heap[g]? = some (.cells #[.int .u8 k, .int .i64 n, .float .f64 f, .string s] t fr)) :
    (results Tryd.f18 tmps).run Tryd.prog w = .ok (.agg #[.int .u8 k, .int .i64 n, .float .f64 f, .string s]) w := by
  obtain ⟨fs, hu⟩ := und34
  exact results_cell_row Tryd.results18 tmps w g t _ fr _ hp hg hu rfl (inf34 _ _ _ _)
/-- A value is being read: the result's block, the value's block. -/
structure ST (w W : World) (T : TypeId) (r : Nat) (a : Option Addr) (cap : Nat) (L : List UInt8) (s : St) (vb : Nat) (k n : Int) (f : Nat) (t : ByteArray) : Prop where
  rd : RD W T r a cap L s
  fr : Fr r w W
  lr : r < w.heap.size
  lv : w.heap.size < vb
  ab : L = [] ∨ ∀ ad, a = some ad → ad.block < w.heap.size
  hg : W.heap[w.heap.size]? = some (.cells Z34 34 (0, 0))
  hv : W.heap[vb]? = some (.cells #[.int .u8 k, .int .i64 n, .float .f64 f, .string t] 34 (0, 0))
section
variable {w W : World} {T : TypeId} {r cap : Nat} {a : Option Addr} {L : List UInt8} {s : St} {vb : Nat} {k n : Int} {f : Nat} {t : ByteArray}
theorem ST.on (h : ST w W T r a cap L s vb k n f t) {W' : World} {s' : St} (o : On W W' T r a cap L s') : ST w W' T r a cap L s' vb k n f t :=
  ⟨o.1, h.fr.trans o.2, h.lr, h.lv, h.ab, by rw [o.2.block _ (Array.getElem?_eq_some_iff.1 h.hg).1 (by have := h.lr; omega)]; exact h.hg, by rw [o.2.block _ (Array.getElem?_eq_some_iff.1 h.hv).1 (by have := h.lr; have := h.lv; omega)]; exact h.hv⟩
theorem ST.drew (h : ST w W T r a cap L s vb k n f t) (m : Nat) : ST w (W.drewN m) T r a cap L s vb k n f t := h.on (h.rd.on.drew m)
theorem rd_away {W W' : World} {q : Nat} {w0 : Nat} (h : RD W T r a cap L s) (hb : ∀ i, i < W.heap.size → i ≠ q → W'.heap[i]? = W.heap[i]?) (hq : w0 ≤ q) (lr : r < w0) (ab : L = [] ∨ ∀ ad, a = some ad → ad.block < w0) : RD W' T r a cap L s := by
  refine ⟨by rw [hb r h.lt (by omega)]; exact h.row, h.room, ?_, h.plain, h.at_le, h.few⟩
  rcases ab with e | ab
  · exact .inl e
  · rcases h.byt with e | ⟨b, off, rfl, hc⟩
    · exact .inl e
    · refine .inr ⟨b, off, rfl, fun j hj => ?_⟩
      have hlt := ab _ rfl
      simp only at hlt
      have hcj := hc j hj
      have hlt2 := block_lt_of_cell hcj
      simp only at hlt2
      have e : W'.cell? ⟨b, off + j, none⟩ = W.cell? ⟨b, off + j, none⟩ := by
        unfold World.cell?
        rw [hb b hlt2 (by omega)]
      rw [e, hcj]
theorem ST.setv (h : ST w W T r a cap L s vb k n f t) {W' : World} {k' n' : Int} {f' : Nat} {t' : ByteArray} (hb : ∀ i, i < W.heap.size → i ≠ vb → W'.heap[i]? = W.heap[i]?) (ho : W'.os = W.os) (ht : W'.tape = W.tape) (hu : W'.output = W.output) (hs : W.heap.size ≤ W'.heap.size)
    (hv : W'.heap[vb]? = some (.cells #[.int .u8 k', .int .i64 n', .float .f64 f', .string t'] 34 (0, 0))) : ST w W' T r a cap L s vb k' n' f' t' := by
  have l1 := h.lv
  have l2 := h.fr.size
  have l3 := (Array.getElem?_eq_some_iff.1 h.hg).1
  exact ⟨rd_away h.rd hb (by omega) h.lr h.ab, ⟨ho.trans h.fr.os, ht.trans h.fr.tape, hu.trans h.fr.output, Nat.le_trans l2 hs, fun i hi hr => (hb i (by omega) (by omega)).trans (h.fr.block i hi hr)⟩, h.lr, h.lv, h.ab, by rw [hb _ l3 (by omega)]; exact h.hg, hv⟩
theorem ST.set1 (h : ST w W T r a cap L s vb k n f t) (n' : Int) : ST w (W.setCell ⟨vb, 1, none⟩ (.int .i64 n')) T r a cap L s vb k n' f t :=
  h.setv (fun i _ hi => Below.heap_setCell _ _ _ _ hi) rfl rfl rfl (by simp [World.setCell]) (by rw [heap_setCell_same W vb 1 _ 34 _ h.hv]; rfl)
theorem ST.set2 (h : ST w W T r a cap L s vb k n f t) (f' : Nat) : ST w (W.setCell ⟨vb, 2, none⟩ (.float .f64 f')) T r a cap L s vb k n f' t :=
  h.setv (fun i _ hi => Below.heap_setCell _ _ _ _ hi) rfl rfl rfl (by simp [World.setCell]) (by rw [heap_setCell_same W vb 2 _ 34 _ h.hv]; rfl)
theorem ST.set3 (h : ST w W T r a cap L s vb k n f t) (t' : ByteArray) : ST w (W.setCell ⟨vb, 3, none⟩ (.string t')) T r a cap L s vb k n f t' :=
  h.setv (fun i _ hi => Below.heap_setCell _ _ _ _ hi) rfl rfl rfl (by simp [World.setCell]) (by rw [heap_setCell_same W vb 3 _ 34 _ h.hv]; rfl)
theorem ST.c0 (h : ST w W T r a cap L s vb k n f t) : W.cell? ⟨vb, 0, none⟩ = some (.int .u8 k) := (cell_of_row W vb 0 _ _ _ h.hv).trans rfl
theorem ST.c1 (h : ST w W T r a cap L s vb k n f t) : W.cell? ⟨vb, 1, none⟩ = some (.int .i64 n) := (cell_of_row W vb 1 _ _ _ h.hv).trans rfl
theorem ST.c2 (h : ST w W T r a cap L s vb k n f t) : W.cell? ⟨vb, 2, none⟩ = some (.float .f64 f) := (cell_of_row W vb 2 _ _ _ h.hv).trans rfl
theorem ST.c3 (h : ST w W T r a cap L s vb k n f t) : W.cell? ⟨vb, 3, none⟩ = some (.string t) := (cell_of_row W vb 3 _ _ _ h.hv).trans rfl
theorem ST.fz (h : ST w W T r a cap L s vb k n f t) (i : Nat) : W.frozen? ⟨vb, i, none⟩ = false := frozen_of_row W vb i _ _ h.hv
/-- The result is laid. -/
theorem ST.fin (h : ST w W T r a cap L s vb k n f t) (cs : Array Value) : On w (W.setRow w.heap.size cs) T r a cap L s := by
  have l2 := h.fr.size
  have l3 := (Array.getElem?_eq_some_iff.1 h.hg).1
  have hb : ∀ i, i < W.heap.size → i ≠ w.heap.size → (W.setRow w.heap.size cs).heap[i]? = W.heap[i]? := fun i _ hi => setRow_other W w.heap.size i cs hi
  exact ⟨rd_away h.rd hb (Nat.le_refl _) h.lr h.ab, ⟨h.fr.os, h.fr.tape, h.fr.output, by simp [World.setRow]; exact l2, fun i hi hr => (hb i (by omega) (by omega)).trans (h.fr.block i hi hr)⟩⟩
theorem ST.start {w w1 : World} {s s1 : St} (h : RD w T r a cap L s) (o : On (w.alloc (.cells Z34 34)) w1 T r a cap L s1) (k n : Int) (f : Nat) (t : ByteArray) :
    ST w ((w1.alloc (.cells Z34 34)).setRow w1.heap.size #[.int .u8 k, .int .i64 n, .float .f64 f, .string t]) T r a cap L s1 w1.heap.size k n f t := by
  have l0 := h.lt
  have l1 := o.2.size
  have l2 : (w.alloc (.cells Z34 34)).heap.size = w.heap.size + 1 := by simp
  have ab : L = [] ∨ ∀ ad, a = some ad → ad.block < w.heap.size := by
    by_cases h0 : L = []
    · exact .inl h0
    · right
      intro ad e
      have hp : 0 < L.length := List.length_pos_iff.2 h0
      rcases h.byt with e2 | ⟨b, off, e2, hc⟩
      · exact absurd e2 h0
      · rw [e2] at e
        cases e
        exact block_lt_of_cell (hc 0 hp)
  have hA : (w1.alloc (.cells Z34 34)).heap[w1.heap.size]? = some (.cells Z34 34 (0, 0)) := heap_alloc_new _ _
  have hb : ∀ i, i < w1.heap.size → i ≠ w1.heap.size → ((w1.alloc (.cells Z34 34)).setRow w1.heap.size #[.int .u8 k, .int .i64 n, .float .f64 f, .string t]).heap[i]? = w1.heap[i]? := fun i hi hne => by
    rw [setRow_other _ _ _ _ hne, Below.heap_alloc _ _ _ hi]
  have hg1 : w1.heap[w.heap.size]? = some (.cells Z34 34 (0, 0)) := by
    rw [o.2.block w.heap.size (by omega) (by omega)]
    exact heap_alloc_new _ _
  refine ⟨rd_away o.1 hb (show w.heap.size ≤ w1.heap.size by omega) l0 ab, ?_, l0, by omega, ab, by rw [hb _ (by omega) (by omega)]; exact hg1, setRow_heap _ _ _ _ _ _ hA⟩
  refine ⟨o.2.os, o.2.tape, o.2.output, by simp [World.setRow]; omega, fun i hi hr => ?_⟩
  rw [hb i (by omega) (by omega), o.2.block i (by omega) hr, Below.heap_alloc _ _ _ hi]
end
theorem NamesAt.fr {w w' : World} {r : Nat} (h : NamesAt 0 w) (f : Fr r w w') (hr : 4 ≤ r) : NamesAt 0 w' := by
  obtain ⟨t, fr, h⟩ := h
  exact ⟨t, fr, by rw [f.block _ (Array.getElem?_eq_some_iff.1 h).1 (by omega)]; exact h⟩
/-- What is told, by whether there is a fault. -/
def fin4 (s : St) (k n : Int) (f : Nat) (t : ByteArray) : Value := if s.bad = 0 then VV k n f t else VV 0 0 0 ⟨#[]⟩
end Go.Proofs.YtkinjcblngkeiaaDoor
