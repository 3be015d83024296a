import Derived.Test.YtldlljobofnmmabDoorGl
namespace Go.Proofs.YtldlljobofnmmabDoor
open Go.RowKit
set_option linter.unusedVariables false
set_option linter.unusedSimpArgs false

section
variable {κ : Type} {R : RowT κ}
theorem RowT.At.take {w : World} {a : Option Addr} {L : List κ} (h : R.At w a L) (n : Nat) : R.At w a (L.take n) := by
  rcases h with rfl | ⟨b, o, e, hl, hr⟩
  · exact .inl (by simp)
  · exact .inr ⟨b, o, e, hl, fun i x hx => hr i x (by rw [List.getElem?_take] at hx; split at hx; exact hx; cases hx)⟩
theorem RowT.szR (I : R.Is) (W : World) : (sizeOf R.e).run Tryd.prog W = .ok R.k W := m_sz (RowT.sz I) W
theorem RowT.sl_upto (I : R.Is) (a : Option Addr) {n c m : Nat} (hm : m ≤ c) (W : World) : (Instr.sliceAt R.t (.slice a n c) none (some (.int .i64 (m : Int))) none).run Tryd.prog W = .ok (.slice a m c) W := by
  have h1 : (0 : Int) ≤ (m : Int) ∧ (m : Int) ≤ (c : Int) := by omega
  cases a with
  | none =>
    simp only [Instr.sliceAt, Instr.slice, Instr.sliceBounds, Instr.sliceBound, run_underlying I.und, asIntOf, Sem.run_bind, Sem.run_pure, Result.andThen_ok, RowT.szR I]
    rw [if_pos h1]
    simp only [Sem.run_bind, Sem.run_pure, Result.andThen_ok, Int.toNat_natCast]
    simp
  | some ad =>
    simp only [Instr.sliceAt, Instr.slice, Instr.sliceBounds, Instr.sliceBound, run_underlying I.und, asIntOf, Sem.run_bind, Sem.run_pure, Result.andThen_ok, RowT.szR I]
    rw [if_pos h1]
    simp only [Sem.run_bind, Sem.run_pure, Result.andThen_ok, Int.toNat_natCast]
    obtain ⟨b, o, sp⟩ := ad
    simp [Addr.add]
/-- The first m, without room behind them. -/
theorem RowT.sl_cut (I : R.Is) (a : Option Addr) {n c m : Nat} (hm : m ≤ c) (W : World) : (Instr.sliceAt R.t (.slice a n c) none (some (.int .i64 (m : Int))) (some (.int .i64 (m : Int)))).run Tryd.prog W = .ok (.slice a m m) W := by
  have h1 : (0 : Int) ≤ (m : Int) ∧ (m : Int) ≤ (c : Int) := by omega
  have h2 : (0 : Int) ≤ (m : Int) ∧ (m : Int) ≤ (m : Int) := by omega
  cases a with
  | none =>
    simp only [Instr.sliceAt, Instr.slice, Instr.sliceBounds, Instr.sliceBound, run_underlying I.und, asIntOf, Sem.run_bind, Sem.run_pure, Result.andThen_ok, RowT.szR I]
    rw [if_pos h1]
    simp only [Sem.run_bind, Sem.run_pure, Result.andThen_ok, Int.toNat_natCast]
    rw [if_pos h2]
    simp only [Sem.run_bind, Sem.run_pure, Result.andThen_ok, Int.toNat_natCast]
    simp
  | some ad =>
    simp only [Instr.sliceAt, Instr.slice, Instr.sliceBounds, Instr.sliceBound, run_underlying I.und, asIntOf, Sem.run_bind, Sem.run_pure, Result.andThen_ok, RowT.szR I]
    rw [if_pos h1]
    simp only [Sem.run_bind, Sem.run_pure, Result.andThen_ok, Int.toNat_natCast]
    rw [if_pos h2]
    simp only [Sem.run_bind, Sem.run_pure, Result.andThen_ok, Int.toNat_natCast]
    obtain ⟨b, o, sp⟩ := ad
    simp [Addr.add]
theorem RowT.At.from {w : World} {ad : Addr} {L : List κ} (hat : R.At w (some ad) L) (n : Nat) : R.At w (some (ad.add (n * R.k))) (L.drop n) := by
  rcases hat with q | ⟨b, o, e2, hl2, hr⟩
  · exact .inl (by rw [q]; simp)
  · cases e2
    refine .inr ⟨b, o + n * R.k, by rw [Addr.add_mid], hl2, fun i x hx => ?_⟩
    rw [List.getElem?_drop] at hx
    have := hr (n + i) x hx
    rw [show o + n * R.k + R.k * i = o + R.k * (n + i) by rw [Nat.mul_add, Nat.mul_comm R.k n]; omega]
    exact this
theorem RowT.sl_from (I : R.Is) {w : World} {a : Option Addr} {L : List κ} {c n : Nat} (hat : R.At w a L) (hc : L.length ≤ c) (hn : n ≤ L.length) : ∃ a' c', (∀ W, (Instr.sliceAt R.t (.slice a L.length c) (some (.int .i64 (n : Int))) none none).run Tryd.prog W = .ok (.slice a' (L.length - n) c') W) ∧ R.At w a' (L.drop n) ∧ L.length - n ≤ c' := by
  have h2 : (0 : Int) ≤ (n : Int) ∧ (n : Int) ≤ (L.length : Int) := by omega
  cases a with
  | none =>
    refine ⟨none, c - n, fun W => ?_, ?_, by omega⟩
    · simp only [Instr.sliceAt, Instr.slice, Instr.sliceBounds, Instr.sliceBound, run_underlying I.und, asIntOf, Sem.run_bind, Sem.run_pure, Result.andThen_ok, RowT.szR I]
      rw [if_pos h2]
      simp only [Sem.run_bind, Sem.run_pure, Result.andThen_ok, Int.toNat_natCast]
      simp
    · rcases hat with q | ⟨b, o, e, _⟩
      · exact .inl (by rw [q]; simp)
      · cases e
  | some ad =>
    by_cases e : c = n
    · refine ⟨some ad, c - n, fun W => ?_, .inl (List.drop_of_length_le (by omega)), by omega⟩
      simp only [Instr.sliceAt, Instr.slice, Instr.sliceBounds, Instr.sliceBound, run_underlying I.und, asIntOf, Sem.run_bind, Sem.run_pure, Result.andThen_ok, RowT.szR I]
      rw [if_pos h2]
      simp only [Sem.run_bind, Sem.run_pure, Result.andThen_ok, Int.toNat_natCast]
      rw [if_pos e]
    · refine ⟨some (ad.add (n * R.k)), c - n, fun W => ?_, hat.from n, by omega⟩
      simp only [Instr.sliceAt, Instr.slice, Instr.sliceBounds, Instr.sliceBound, run_underlying I.und, asIntOf, Sem.run_bind, Sem.run_pure, Result.andThen_ok, RowT.szR I]
      rw [if_pos h2]
      simp only [Sem.run_bind, Sem.run_pure, Result.andThen_ok, Int.toNat_natCast]
      rw [if_neg e]
      simp
theorem RowT.sl_mid (I : R.Is) {w : World} {a : Option Addr} {L : List κ} {c n m : Nat} (hat : R.At w a L) (hc : L.length ≤ c) (hn : n ≤ m) (hm : m ≤ L.length) : ∃ a' c', (∀ W, (Instr.sliceAt R.t (.slice a L.length c) (some (.int .i64 (n : Int))) (some (.int .i64 (m : Int))) none).run Tryd.prog W = .ok (.slice a' (m - n) c') W) ∧ R.At w a' ((L.take m).drop n) := by
  have h1 : (0 : Int) ≤ (m : Int) ∧ (m : Int) ≤ (c : Int) := by omega
  have h2 : (0 : Int) ≤ (n : Int) ∧ (n : Int) ≤ (m : Int) := by omega
  cases a with
  | none =>
    refine ⟨none, c - n, fun W => ?_, ?_⟩
    · simp only [Instr.sliceAt, Instr.slice, Instr.sliceBounds, Instr.sliceBound, run_underlying I.und, asIntOf, Sem.run_bind, Sem.run_pure, Result.andThen_ok, RowT.szR I]
      rw [if_pos h1]
      simp only [Sem.run_bind, Sem.run_pure, Result.andThen_ok, Int.toNat_natCast]
      rw [if_pos h2]
      simp only [Sem.run_bind, Sem.run_pure, Result.andThen_ok, Int.toNat_natCast]
      simp
    · rcases hat with q | ⟨b, o, e, _⟩
      · exact .inl (by rw [q]; simp)
      · cases e
  | some ad =>
    by_cases e : c = n
    · refine ⟨some ad, c - n, fun W => ?_, .inl (List.drop_of_length_le (by simp; omega))⟩
      simp only [Instr.sliceAt, Instr.slice, Instr.sliceBounds, Instr.sliceBound, run_underlying I.und, asIntOf, Sem.run_bind, Sem.run_pure, Result.andThen_ok, RowT.szR I]
      rw [if_pos h1]
      simp only [Sem.run_bind, Sem.run_pure, Result.andThen_ok, Int.toNat_natCast]
      rw [if_pos h2]
      simp only [Sem.run_bind, Sem.run_pure, Result.andThen_ok, Int.toNat_natCast]
      rw [if_pos e]
    · refine ⟨some (ad.add (n * R.k)), c - n, fun W => ?_, (hat.take m).from n⟩
      simp only [Instr.sliceAt, Instr.slice, Instr.sliceBounds, Instr.sliceBound, run_underlying I.und, asIntOf, Sem.run_bind, Sem.run_pure, Result.andThen_ok, RowT.szR I]
      rw [if_pos h1]
      simp only [Sem.run_bind, Sem.run_pure, Result.andThen_ok, Int.toNat_natCast]
      rw [if_pos h2]
      simp only [Sem.run_bind, Sem.run_pure, Result.andThen_ok, Int.toNat_natCast]
      rw [if_neg e]
      simp
/-- A box of one's own. -/
def RowT.Bx (R : RowT κ) (w : World) (b : Nat) (x : κ) : Prop := w.heap[b]? = some (.cells (R.c x).toArray R.e (0, 0))
theorem RowT.Bx.rng {w : World} {b : Nat} {x : κ} (h : R.Bx w b x) : w.rangeAt b 0 (R.c x) := fun j v hv => by
  rw [Nat.zero_add, cell_of_row _ _ j _ _ _ h]
  simpa using hv
theorem RowT.Bx.below {w w' : World} {b : Nat} {x : κ} (h : R.Bx w b x) (hb : Below w.heap.size w w') : R.Bx w' b x := (hb.block b (Array.getElem?_eq_some_iff.1 h).1).trans h
theorem RowT.zeroR (I : R.Is) (w : World) : (zeroValue R.e).run Tryd.prog w = .ok (.agg (R.c R.z).toArray) w := by
  obtain ⟨i, hi, hz, hs, hby⟩ := info_parts I.info
  simp [zeroValue, typeInfo, hi, hz]
theorem RowT.bx_zero (I : R.Is) (w : World) : (Instr.alloc R.e true (.tuple #[])).run Tryd.prog w = .ok (.pointer (some ⟨w.heap.size, 0, none⟩)) (w.alloc (.cells (R.c R.z).toArray R.e)) := by
  simp only [Instr.alloc, newVar, newRow, newObj, Sem.run_bind, RowT.zeroR I, Result.andThen_ok, Value.cells]
  rfl
theorem RowT.bx_store (I : R.Is) {w : World} {b : Nat} {x u : κ} (hx : R.ok x) (hu : R.ok u) (h : R.Bx w b x) : (Instr.storeAt R.e (.pointer (some ⟨b, 0, none⟩)) (.agg (R.c u).toArray)).run Tryd.prog w = .ok () (w.setRow b (R.c u).toArray) := by
  have e2 := run_storeVar_row (P := Tryd.prog) w b R.e R.e (R.c x).toArray (R.c u).toArray h (by rw [List.size_toArray, I.len u hu]; exact RowT.sz I)
    (by rw [List.size_toArray, List.size_toArray, I.len u hu, I.len x hx]) (by rw [List.all_toArray, List.all_eq_true]; exact I.one u)
  simp only [Instr.storeAt, Instr.sureAddr, Sem.run_bind, Sem.run_pure, Result.andThen_ok, e2]
/-- A new box, and what is stored into it. -/
theorem RowT.bx_new (I : R.Is) (w : World) {u : κ} (hu : R.ok u) : (Instr.storeAt R.e (.pointer (some ⟨w.heap.size, 0, none⟩)) (.agg (R.c u).toArray)).run Tryd.prog (w.alloc (.cells (R.c R.z).toArray R.e)) = .ok () (w.alloc (.cells (R.c u).toArray R.e)) := by
  have := RowT.bx_store I (w := w.alloc (.cells (R.c R.z).toArray R.e)) (b := w.heap.size) I.zok hu (heap_alloc_new _ _)
  rw [World.setRow_alloc_new] at this
  exact this
theorem RowT.bx_is (R : RowT κ) (w : World) (u : κ) : R.Bx (w.alloc (.cells (R.c u).toArray R.e)) w.heap.size u ∧ Below w.heap.size w (w.alloc (.cells (R.c u).toArray R.e)) := ⟨heap_alloc_new _ _, (Below.refl _ _).alloc (Nat.le_refl _) _⟩
end
end Go.Proofs.YtldlljobofnmmabDoor
