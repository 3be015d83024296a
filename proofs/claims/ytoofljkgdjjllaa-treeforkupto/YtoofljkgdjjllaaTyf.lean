import Derived.Test.YtoofljkgdjjllaaTye
namespace Go.Proofs.Ytoofljkgdjjllaa
open Go.RowKit
set_option linter.unusedVariables false
set_option linter.unusedSimpArgs false

/-- How two Ids stand. -/
def cId (x y : IdK) : Int := or2 (cmpL x.h y.h) (cI x.n y.n)
theorem load_hash {w : World} {b : Nat} {k : IdK} (hk : k.ok) (h : IdAt w b k) : (Instr.loadAt 35 (.pointer (some ⟨b, 0, none⟩))).run Try.prog w = .ok (.agg (bs k.h)) w := by
  have h1 := run_loadAt_mid (P := Try.prog) w b 0 35 (hcs k.h) _ (fun j v hv => by
    refine cells_range h j v ?_
    rw [IdK.c, List.getElem?_append_left (List.getElem?_eq_some_iff.1 hv).1]
    exact hv) Try.underlying35 rfl (by rw [hcs_len, hk.l]; kernel_rfl)
  rw [show (hcs k.h).toArray = bs k.h by simp [hcs]] at h1
  exact h1
theorem cell_n {w : World} {b : Nat} {k : IdK} (hk : k.ok) (h : IdAt w b k) : w.cell? ⟨b, 32, none⟩ = some (.int .i64 k.n) := by
  rw [cell_of_row _ _ 32 _ _ _ h]
  have := hk.l
  simp [IdK.c, List.getElem?_append, hcs_len, this]
theorem cmpD_any (a b : List UInt8) (ha : a.length = 32) (hb : b.length = 32) (w : World) :
    Calls Try.prog 91 #[.agg (bs a), .agg (bs b)] w fun e w' => e = .returned (.int .i64 (cmpL a b)) ∧ Below w.heap.size w w' ∧ w.drawn ≤ w'.drawn :=
  (cmp_grow a b ha hb w).mono fun e w' ⟨he, m, hw⟩ => ⟨he, by rw [hw]; exact below_drewN (((Below.refl _ _).alloc (Nat.le_refl _) _).alloc (by simp) _) _, by rw [hw]; exact Nat.le_add_right _ _⟩
set_option maxRecDepth 100000 in
set_option maxHeartbeats 2000000 in
theorem cmpId_any (x y : IdK) (w : World) (hxo : x.ok) (hyo : y.ok) : Calls Try.prog 85 #[x.v, y.v] w fun e w' => e = .returned (.int .i64 (cId x y)) ∧ Below w.heap.size w w' ∧ w.drawn ≤ w'.drawn := by
  have H1 := hidMk (fun W => cmpD_any x.h y.h hxo.l hyo.l W)
  have H2 := hidMk (fun W => cmpN x.n y.n W)
  unfold cId
  obtain ⟨c, hc⟩ : ∃ c, cmpL x.h y.h = c := ⟨_, rfl⟩
  rw [hc] at H1
  rw [hc]
  clear hc
  unfold IdK.v
  go_enter Try.func85, Try.ntmps85
  go_upto_region 1 with fail
  obtain ⟨hx, hy, bx, zx⟩ := two_boxes w x y
  have ZX := hidMk zx
  clear zx
  have dx : w.drawn ≤ ((w.alloc (.cells x.c.toArray 37)).alloc (.cells y.c.toArray 37)).drawn := Nat.le_refl _
  generalize (w.alloc (.cells x.c.toArray 37)).alloc (.cells y.c.toArray 37) = W at *
  have z1 : w.heap.size + 2 ≤ W.heap.size := Nat.le_of_eq ZX.out.symm
  have n1 := cell_n hxo hx
  have n2 := cell_n hyo hy
  go_upto_region 2 with (first
    | (refine wpList_val rfl (exec_load (t := 35) (u := .pointer (some ⟨w.heap.size, 0, none⟩)) rfl rfl (load_hash hxo hx)) ?_)
    | (refine wpList_val rfl (exec_load (t := 35) (u := .pointer (some ⟨w.heap.size + 1, 0, none⟩)) rfl rfl (load_hash hyo hy)) ?_)
    | (go_at_call 91; refine (H1.out _).mono ?_; rintro e w1 ⟨rfl, b', d'⟩; replace dx : w.drawn ≤ w1.drawn := Nat.le_trans dx d'; clear d'; replace n1 := (b'.cell (by show w.heap.size < _; omega)).trans n1; replace n2 := (b'.cell (by show w.heap.size + 1 < _; omega)).trans n2; replace bx : Below w.heap.size w w1 := bx.trans (b'.mono (by omega)); clear b')
    | fail)
  by_cases h0 : c = 0
  · subst h0
    go_wp2_with (first
      | (go_at_call 92; refine (H2.out _).mono ?_; rintro e w2 ⟨rfl, rfl⟩)
      | fail)
    go_ret
    exact ⟨rfl, bx, dx⟩
  · have hq : (c == 0) = false := by simpa using h0
    have hq2 : (c != 0) = true := by simpa using h0
    have HO := hidMk (show or2 c (cI x.n y.n) = c by simp [or2, h0])
    clear h0
    go_wp2
    go_ret
    exact ⟨by rw [HO.out]; rfl, bx, dx⟩
end Go.Proofs.Ytoofljkgdjjllaa
