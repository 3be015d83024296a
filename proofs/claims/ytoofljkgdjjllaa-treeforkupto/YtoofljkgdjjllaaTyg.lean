import Derived.Test.YtoofljkgdjjllaaTyf
namespace Go.Proofs.Ytoofljkgdjjllaa
open Go.RowKit
set_option linter.unusedVariables false
set_option linter.unusedSimpArgs false

/-- A node of a row. -/
structure KidV where
  id : IdK
  key : ByteArray
def KidV.c (k : KidV) : List Value := k.id.c ++ [.string k.key]
def KidV.v (k : KidV) : Value := .agg k.c.toArray
theorem KidV.len {k : KidV} (h : k.id.ok) : k.c.length = 34 := by simp [KidV.c, IdK.len h]
theorem KidV.one (k : KidV) : ∀ v ∈ k.c, v.oneCell' = true := by
  intro v hv
  simp only [KidV.c, List.mem_append, List.mem_singleton] at hv
  rcases hv with h | rfl
  · exact IdK.one _ v h
  · rfl
theorem szKid : (Try.prog.info? 109).map (·.size) = some 34 := by kernel_rfl
def KidAt (w : World) (b : Nat) (k : KidV) : Prop := w.heap[b]? = some (.cells k.c.toArray 109 (0, 0))
/-- How two of a row stand. -/
def cKid (x y : KidV) : Int := or2 (cS x.key y.key) (cId x.id y.id)
theorem load_kid {w : World} {b : Nat} {k : KidV} (hk : k.id.ok) (h : KidAt w b k) : (Instr.loadAt 37 (.pointer (some ⟨b, 0, none⟩))).run Try.prog w = .ok k.id.v w :=
  run_loadAt_mid (P := Try.prog) w b 0 37 k.id.c _ (fun j v hv => by
    refine cells_range h j v ?_
    rw [KidV.c, List.getElem?_append_left (List.getElem?_eq_some_iff.1 hv).1]
    exact hv) Try.underlying37 rfl (by rw [IdK.len hk]; exact szId)
theorem cell_key {w : World} {b : Nat} {k : KidV} (hk : k.id.ok) (h : KidAt w b k) : w.cell? ⟨b, 33, none⟩ = some (.string k.key) := by
  rw [cell_of_row _ _ 33 _ _ _ h]
  have := IdK.len hk
  simp [KidV.c, List.getElem?_append, this]
theorem two_kids (w : World) (k u : KidV) : KidAt ((w.alloc (.cells k.c.toArray 109)).alloc (.cells u.c.toArray 109)) w.heap.size k ∧ KidAt ((w.alloc (.cells k.c.toArray 109)).alloc (.cells u.c.toArray 109)) (w.heap.size + 1) u ∧
    Below w.heap.size w ((w.alloc (.cells k.c.toArray 109)).alloc (.cells u.c.toArray 109)) ∧ ((w.alloc (.cells k.c.toArray 109)).alloc (.cells u.c.toArray 109)).heap.size = w.heap.size + 2 := by
  have z : (w.alloc (.cells k.c.toArray 109)).heap.size = w.heap.size + 1 := by simp
  refine ⟨?_, ?_, ((Below.refl _ _).alloc (Nat.le_refl _) _).alloc (by simp) _, by simp⟩
  · unfold KidAt
    rw [Below.heap_alloc _ _ _ (by rw [z]; omega)]
    exact heap_alloc_new _ _
  · have := heap_alloc_new (w.alloc (.cells k.c.toArray 109)) (.cells u.c.toArray 109)
    rw [z] at this
    exact this
set_option maxRecDepth 100000 in
set_option maxHeartbeats 2000000 in
theorem cmpKid_any (x y : KidV) (w : World) (hxo : x.id.ok) (hyo : y.id.ok) : Calls Try.prog 83 #[x.v, y.v] w fun e w' => e = .returned (.int .i64 (cKid x y)) ∧ Below w.heap.size w w' ∧ w.drawn ≤ w'.drawn := by
  have H1 := hidMk (fun W => cmpS_any x.key y.key W)
  have H2 := hidMk (fun W => cmpId_any x.id y.id W hxo hyo)
  unfold cKid
  obtain ⟨c, hc⟩ : ∃ c, cS x.key y.key = c := ⟨_, rfl⟩
  rw [hc] at H1
  rw [hc]
  clear hc
  unfold KidV.v
  go_enter Try.func83, Try.ntmps83
  go_upto_region 1 with fail
  obtain ⟨hx, hy, bx, zx⟩ := two_kids w x y
  have ZX := hidMk zx
  clear zx
  have dx : w.drawn ≤ ((w.alloc (.cells x.c.toArray 109)).alloc (.cells y.c.toArray 109)).drawn := Nat.le_refl _
  generalize (w.alloc (.cells x.c.toArray 109)).alloc (.cells y.c.toArray 109) = W at *
  have z1 : w.heap.size + 2 ≤ W.heap.size := Nat.le_of_eq ZX.out.symm
  have n1 := cell_key hxo hx
  have n2 := cell_key hyo hy
  go_upto_region 2 with (first
    | (go_at_call 84; refine (H1.out _).mono ?_; rintro e w1 ⟨rfl, rfl⟩)
    | fail)
  by_cases h0 : c = 0
  · subst h0
    go_wp2_with (first
      | (refine wpList_val rfl (exec_load (t := 37) (u := .pointer (some ⟨w.heap.size, 0, none⟩)) rfl rfl (load_kid hxo hx)) ?_)
      | (refine wpList_val rfl (exec_load (t := 37) (u := .pointer (some ⟨w.heap.size + 1, 0, none⟩)) rfl rfl (load_kid hyo hy)) ?_)
      | (go_at_call 85; refine (H2.out _).mono ?_; rintro e w2 ⟨rfl, b2, d2⟩)
      | fail)
    go_ret
    exact ⟨rfl, bx.trans (b2.mono (by omega)), Nat.le_trans dx d2⟩
  · have hq : (c == 0) = false := by simpa using h0
    have hq2 : (c != 0) = true := by simpa using h0
    have HO := hidMk (show or2 c (cId x.id y.id) = c by simp [or2, h0])
    clear h0
    go_wp2
    go_ret
    exact ⟨by rw [HO.out]; rfl, bx, dx⟩
end Go.Proofs.Ytoofljkgdjjllaa
