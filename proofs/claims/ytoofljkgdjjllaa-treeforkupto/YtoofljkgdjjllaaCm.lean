import Derived.Test.YtoofljkgdjjllaaOw
import Derived.WalkLawsBesides
import Derived.Lib.BytesEntry
namespace Go.Proofs.Ytoofljkgdjjllaa
open Go.RowKit
set_option linter.unusedVariables false
set_option linter.unusedSimpArgs false

/-- Which of two rows of bytes comes first. -/
def cmpL : List UInt8 → List UInt8 → Int
  | x :: a, y :: b => if x.toNat < y.toNat then -1 else if y.toNat < x.toNat then 1 else cmpL a b
  | _, _ => 0
theorem cmpL_at : ∀ (a b : List UInt8) (k : Nat), k < a.length → k < b.length → (∀ j, j < k → at8 a j = at8 b j) → (at8 a k < at8 b k → cmpL a b = -1) ∧ (at8 b k < at8 a k → cmpL a b = 1)
  | x :: a, y :: b, 0, _, _, _ => by
    simp only [at8_zero, cmpL]
    constructor
    · intro h; rw [if_pos (by omega)]
    · intro h; rw [if_neg (by omega), if_pos (by omega)]
  | x :: a, y :: b, k + 1, h1, h2, h3 => by
    have e := h3 0 (by omega)
    simp only [at8_zero] at e
    simp only [at8_succ, cmpL]
    rw [if_neg (by omega), if_neg (by omega)]
    exact cmpL_at a b k (by simpa using h1) (by simpa using h2) (fun j hj => by have := h3 (j + 1) (by omega); simpa [at8_succ] using this)
  | [], _, k, h1, _, _ => by simp at h1
  | _ :: _, [], k, _, h2, _ => by simp at h2
theorem cmpL_same (a : List UInt8) : cmpL a a = 0 := by
  induction a with
  | nil => rfl
  | cons x a ih => simp only [cmpL]; rw [if_neg (by omega), if_neg (by omega)]; exact ih

theorem cmpL_lib : ∀ (a b : List UInt8), a.length = b.length → cmpL a b = Lib.compareBytes a b
  | [], [], _ => rfl
  | [], _ :: _, h => by simp at h
  | _ :: _, [], h => by simp at h
  | x :: a, y :: b, h => by
    simp only [cmpL, Lib.compareBytes, UInt8.lt_iff_toNat_lt]
    rw [cmpL_lib a b (by simpa using h)]
theorem load_row (w : World) (g : Nat) (a : List UInt8) (fr : Nat × Nat) (hg : w.heap[g]? = some (.cells (bs a) 35 fr)) : (Extern.Bytes.bytesOf (.slice (some ⟨g, 0, none⟩) a.length 32)).run Try.prog w = .ok ⟨a.toArray⟩ w := by
  show (Extern.Bytes.loadBytes ⟨g, 0, none⟩ a.length .empty).run Try.prog w = _
  have h := Lib.run_loadBytesX (P := Try.prog) w (a.map (fun b => (b.toNat : Int))) ⟨g, 0, none⟩ .empty (fun j x hx => by
    have hj : j < a.length := by have := (List.getElem?_eq_some_iff.1 hx).1; simpa using this
    have e : (⟨g, 0, none⟩ : Addr).add j = ⟨g, j, none⟩ := by simpa using Addr.add_mid g 0 j
    rw [e, cell_of_row w g j _ _ _ hg, bs_get a j hj]
    simp [List.getElem?_eq_getElem hj] at hx
    simp [at8, List.getElem?_eq_getElem hj, hx])
  rw [List.length_map] at h
  rw [h]
  congr 1
  apply ByteArray.ext
  have e2 : Lib.bytesOf (a.map fun b => (b.toNat : Int)) = a := by
    simp only [Lib.bytesOf, List.map_map]
    exact (List.map_congr_left (fun b _ => by simp)).trans (List.map_id a)
  rw [e2]
  simp
theorem ext_cmp (w : World) (g0 g1 : Nat) (a b : List UInt8) (ha : a.length = 32) (hb : b.length = 32) (h0 : w.heap[g0]? = some (.cells (bs a) 35 (0, 0))) (h1 : w.heap[g1]? = some (.cells (bs b) 35 (0, 0))) :
    (callFunc 112 #[.slice (some ⟨g0, 0, none⟩) 32 32, .slice (some ⟨g1, 0, none⟩) 32 32]).run Try.prog w = .ok (.value (.int .i64 (cmpL a b))) w := by
  rw [run_callFunc_extern Try.func112 (by kernel_rfl) (by kernel_rfl) (by kernel_rfl) (e := Extern.BytealgCompare.compare) (by kernel_rfl)]
  have l0 := load_row w g0 a (0, 0) h0
  have l1 := load_row w g1 b (0, 0) h1
  rw [ha] at l0
  rw [hb] at l1
  have hr : (Extern.BytealgCompare.compare #[.slice (some ⟨g0, 0, none⟩) 32 32, .slice (some ⟨g1, 0, none⟩) 32 32]).run Try.prog w = .ok (.int .i64 (cmpL a b)) w := by
    show Sem.run Try.prog (do pure (goInt (Extern.BytealgCompare.cmp (← Extern.Bytes.bytesOf (.slice (some ⟨g0, 0, none⟩) 32 32)) (← Extern.Bytes.bytesOf (.slice (some ⟨g1, 0, none⟩) 32 32))))) w = _
    simp only [Sem.run_bind, l0, l1, Result.andThen, Sem.run_pure]
    rw [Lib.cmp_eq, cmpL_lib a b (by omega)]
    rfl
  rw [hr]
  rfl
set_option maxRecDepth 100000 in
set_option maxHeartbeats 1000000 in
theorem bcmp_any (w : World) (g0 g1 : Nat) (a b : List UInt8) (ha : a.length = 32) (hb : b.length = 32) (h0 : w.heap[g0]? = some (.cells (bs a) 35 (0, 0))) (h1 : w.heap[g1]? = some (.cells (bs b) 35 (0, 0))) :
    Calls Try.prog 105 #[.slice (some ⟨g0, 0, none⟩) 32 32, .slice (some ⟨g1, 0, none⟩) 32 32] w fun e w' => e = .returned (.int .i64 (cmpL a b)) ∧ w' = w := by
  have hx := ext_cmp w g0 g1 a b ha hb h0 h1
  clear h0 h1
  go_enter Try.func105, Try.ntmps105
  go_wp2
  go_ret
  exact ⟨rfl, rfl⟩
set_option maxRecDepth 100000 in
set_option maxHeartbeats 1000000 in
theorem cmp_grow (a b : List UInt8) (ha : a.length = 32) (hb : b.length = 32) (w : World) :
    Calls Try.prog 91 #[.agg (bs a), .agg (bs b)] w fun e w' => e = .returned (.int .i64 (cmpL a b)) ∧ ∃ m, w' = ((w.alloc (.cells (bs a) 35)).alloc (.cells (bs b) 35)).drewN m := by
  have g0 : ((w.alloc (.cells (bs a) 35)).alloc (.cells (bs b) 35)).heap[w.heap.size]? = some (.cells (bs a) 35 (0, 0)) := heap_alloc2_old _ _ _
  have g1 : ((w.alloc (.cells (bs a) 35)).alloc (.cells (bs b) 35)).heap[w.heap.size + 1]? = some (.cells (bs b) 35 (0, 0)) := heap_alloc2_new _ _ _
  obtain ⟨W0, hW0⟩ : ∃ W0, W0 = ((w.alloc (.cells (bs a) 35)).alloc (.cells (bs b) 35)) := ⟨_, rfl⟩
  rw [← hW0] at g0 g1 ⊢
  have HB : Hid (∀ m, Calls Try.prog 105 #[.slice (some ⟨w.heap.size, 0, none⟩) 32 32, .slice (some ⟨w.heap.size + 1, 0, none⟩) 32 32] (W0.drewN m) fun e w' => e = .returned (.int .i64 (cmpL a b)) ∧ w' = W0.drewN m) := fun m => bcmp_any (W0.drewN m) w.heap.size (w.heap.size + 1) a b ha hb g0 g1
  have HW0 : Hid (W0 = ((w.alloc (.cells (bs a) 35)).alloc (.cells (bs b) 35))) := hW0
  clear g0 g1 hW0
  go_enter Try.func91, Try.ntmps91
  go_wp2
  rw [← HW0.out]
  go_quiet (first | (go_at_call 105; exact Calls.quiet_of_same (HB.out _)) | fail)
  go_wp2
  go_ret
  exact ⟨rfl, _, rfl⟩
theorem cmp_any (a b : List UInt8) (ha : a.length = 32) (hb : b.length = 32) (w : World) :
    Calls Try.prog 91 #[.agg (bs a), .agg (bs b)] w fun e w' => e = .returned (.int .i64 (cmpL a b)) ∧ Below w.heap.size w w' :=
  (cmp_grow a b ha hb w).mono fun e w' ⟨he, m, hw⟩ => ⟨he, by rw [hw]; exact below_drewN (((Below.refl _ _).alloc (Nat.le_refl _) _).alloc (by simp) _) _⟩
end Go.Proofs.Ytoofljkgdjjllaa
