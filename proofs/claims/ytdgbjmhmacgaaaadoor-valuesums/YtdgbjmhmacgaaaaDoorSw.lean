import Derived.Test.YtdgbjmhmacgaaaaDoorSm
import Derived.Deep.RegionHeld3
import Derived.Deep.Cut
namespace Go.Proofs.YtdgbjmhmacgaaaaDoor
open Go.RowKit
set_option linter.unusedVariables false
set_option linter.unusedSimpArgs false

theorem nmB_inj (a b : Nat) (ha : a < 12) (hb : b < 12) (h : nmB a = nmB b) : a = b := by
  have key : ∀ a b : Fin 12, nmL.getD a.val [] = nmL.getD b.val [] → a = b := by decide +kernel
  have e : nmL.getD a [] = nmL.getD b [] := by
    have := congrArg (fun x : ByteArray => x.data.toList) h
    simpa [nmB] using this
  exact congrArg Fin.val (key ⟨a, ha⟩ ⟨b, hb⟩ e)
theorem ko_get {k : Nat} (h : k < 12) {e : Ending} (he : KO (nmB k) e) : e = .returned (.tuple #[.int .u8 k, .int .i64 0]) := by
  rcases he with ⟨j, hj, h1, rfl⟩ | ⟨h1, _⟩
  · rw [nmB_inj j k hj h h1]
  · exact absurd rfl (h1 k h)
/-- A name and an x behind it is none. -/
theorem no_x (s : ByteArray) (h : (∃ k, k < 12 ∧ s = nmB k) ∨ s = ⟨#[]⟩) : ∀ j, j < 12 → nmB j ≠ s ++ ⟨#[120]⟩ := by
  intro j hj e
  have e2 : nmL.getD j [] = s.data.toList ++ [120] := by
    have := congrArg (fun x : ByteArray => x.data.toList) e
    simpa [nmB] using this
  have key : ∀ a : Fin 12, (nmL.getD a.val []).getLast? ≠ some 120 := by decide +kernel
  exact key ⟨j, hj⟩ (by rw [e2]; simp)
theorem ko_none_of {s : ByteArray} {e : Ending} (hs : ∀ k, k < 12 → nmB k ≠ s) (h : KO s e) : e = .returned (.tuple #[.int .u8 0, .int .i64 4]) := by
  rcases h with ⟨i, hi, h, _⟩ | ⟨_, h⟩
  · exact absurd h (hs i hi)
  · exact h
theorem ko_x (j : Nat) (hj : j < 12) {e : Ending} (h : KO (nmB j ++ (⟨#[120]⟩ : ByteArray)) e) : e = .returned (.tuple #[.int .u8 0, .int .i64 4]) :=
  ko_none_of (no_x (nmB j) (Or.inl ⟨j, hj, rfl⟩)) h
theorem kx_any (j : Nat) (hj : j < 12) (w : World) (h : NamesAt 0 w) : Calls Tryd.prog 20 #[.string (nmB j ++ (⟨#[120]⟩ : ByteArray))] w fun e w' => e = .returned (.tuple #[.int .u8 0, .int .i64 4]) ∧ w' = w := by
  have hk : ∀ e, KO (nmB j ++ (⟨#[120]⟩ : ByteArray)) e → e = .returned (.tuple #[.int .u8 0, .int .i64 4]) := fun e h => ko_x j hj h
  generalize nmB j ++ (⟨#[120]⟩ : ByteArray) = T at hk ⊢
  refine (kind_any T w h).mono ?_
  rintro e w' ⟨x, rfl⟩
  exact ⟨hk _ x, rfl⟩
theorem nmB_size (j : Nat) (h : j < 12) : (nmB j).size ≤ 10 := by
  have key : ∀ a : Fin 12, (nmL.getD a.val []).length ≤ 10 := by decide +kernel
  have := key ⟨j, h⟩
  show ((nmL.getD j []).toArray).size ≤ 10
  simpa using this
set_option maxRecDepth 100000 in
set_option maxHeartbeats 4000000 in
theorem sums_core (k n : Int) (f : Nat) (s : ByteArray) (m : Int) (K kr er : Int) (S : ByteArray) (w : World) (h0 : NamesAt 0 w) (h1 : NamesAt 1 w) (hz : ¬ 9223372036854775807 < S.size + 1)
    (H1 : Hid (∀ wx, NamesAt 0 wx → Calls Tryd.prog 19 #[.int .u8 K] wx fun e w' => e = .returned (.string S) ∧ w' = wx))
    (H2 : Hid (∀ wx, NamesAt 0 wx → Calls Tryd.prog 20 #[.string S] wx fun e w' => e = .returned (.tuple #[.int .u8 kr, .int .i64 er]) ∧ w' = wx))
    (H3 : Hid (∀ wx, NamesAt 1 wx → Calls Tryd.prog 21 #[.string S] wx fun e w' => e = .returned (.tuple #[.int .u8 kr, .int .i64 er]) ∧ w' = wx))
    (H4 : Hid (∀ wx, NamesAt 0 wx → Calls Tryd.prog 20 #[.string (S ++ (⟨#[120]⟩ : ByteArray))] wx fun e w' => e = .returned (.tuple #[.int .u8 0, .int .i64 4]) ∧ w' = wx))
    (H5 : Hid (∀ wx, NamesAt 1 wx → Calls Tryd.prog 25 #[.int .u8 K] wx fun e w' => e = .returned (.string S) ∧ w' = wx)) :
    Calls Tryd.prog 7 #[.agg #[.int .u8 k, .int .i64 n, .float .f64 f, .string s], .int .i64 m, .int .u8 K] w fun e w' => e = .returned (.bool true) ∧ Below w.heap.size w w' := by
  have bx := bel_box w #[.int .u8 k, .int .i64 n, .float .f64 f, .string s] 25
  have N0 := h0.below bx
  have N1 := h1.below bx
  have qq : (S.toList == S.toList) = true := by simp
  clear h0 h1
  go_enter Tryd.func7, Tryd.ntmps7
  go_wp2_with fail
  refine (H1.out _ N0).mono ?_
  rintro e _ ⟨rfl, rfl⟩
  go_wp2_with fail
  refine (H2.out _ N0).mono ?_
  rintro e _ ⟨rfl, rfl⟩
  go_wp2_with fail
  refine (H3.out _ N1).mono ?_
  rintro e _ ⟨rfl, rfl⟩
  go_wp2_with fail
  refine (H4.out _ N0).mono ?_
  rintro e _ ⟨rfl, rfl⟩
  clear H1 H2 H3 H4 hz
  have g0 : (w.alloc (.cells #[.int .u8 k, .int .i64 n, .float .f64 f, .string s] 25)).heap[w.heap.size]? = some (.cells #[.int .u8 k, .int .i64 n, .float .f64 f, .string s] 25 (0, 0)) := heap_alloc_new _ _
  have zg : w.heap.size < (w.alloc (.cells #[.int .u8 k, .int .i64 n, .float .f64 f, .string s] 25)).heap.size := by simp
  generalize (w.alloc (.cells #[.int .u8 k, .int .i64 n, .float .f64 f, .string s] 25)) = W at *
  have c0 := (cell_of_row W w.heap.size 0 _ _ _ g0).trans (show (#[.int .u8 k, .int .i64 n, .float .f64 f, .string s] : Array Value)[0]? = some (.int .u8 k) from rfl)
  have c1 := (cell_of_row W w.heap.size 1 _ _ _ g0).trans (show (#[.int .u8 k, .int .i64 n, .float .f64 f, .string s] : Array Value)[1]? = some (.int .i64 n) from rfl)
  have c2 := (cell_of_row W w.heap.size 2 _ _ _ g0).trans (show (#[.int .u8 k, .int .i64 n, .float .f64 f, .string s] : Array Value)[2]? = some (.float .f64 f) from rfl)
  have c3 := (cell_of_row W w.heap.size 3 _ _ _ g0).trans (show (#[.int .u8 k, .int .i64 n, .float .f64 f, .string s] : Array Value)[3]? = some (.string s) from rfl)
  have SU : Hid (∀ wx, Below W.heap.size W wx → Calls Tryd.prog 23 #[.agg #[.int .u8 k, .int .i64 n, .float .f64 f, .string s], .int .i64 m] wx fun e w' => e = .returned (.agg #[.int .u8 k, .int .i64 (sumN k n f s m), .float .f64 f, .string s]) ∧ Below W.heap.size W w') := fun wx hx => (sum_any k n f s m wx).mono fun e w' h => ⟨h.1, hx.trans (h.2.mono hx.size)⟩
  have SR : Hid (∀ wx, Below W.heap.size W wx → Calls Tryd.prog 24 #[.agg #[.int .u8 k, .int .i64 n, .float .f64 f, .string s], .int .i64 m] wx fun e w' => e = .returned (.agg #[.int .u8 k, .int .i64 (sumN k n f s m), .float .f64 f, .string s]) ∧ Below W.heap.size W w') := fun wx hx => (rsum_any k n f s m wx).mono fun e w' h => ⟨h.1, hx.trans (h.2.mono hx.size)⟩
  have SS : Hid (∀ wx, Below W.heap.size W wx → Calls Tryd.prog 22 #[.agg #[.int .u8 k, .int .i64 (sumN k n f s m), .float .f64 f, .string s], .agg #[.int .u8 k, .int .i64 (sumN k n f s m), .float .f64 f, .string s]] wx fun e w' => e = .returned (.bool true) ∧ Below W.heap.size W w') := fun wx hx => (same_any _ _ _ _ _ _ _ _ wx).mono fun e w' h => ⟨by rw [h.1]; simp [sameB], hx.trans (h.2.mono hx.size)⟩
  have SN : Hid (∀ wx, Below W.heap.size W wx → Calls Tryd.prog 25 #[.int .u8 K] wx fun e w' => e = .returned (.string S) ∧ Below W.heap.size W w') := fun wx hx => (H5.out wx (N1.below hx)).mono fun e w' h => ⟨h.1, by rw [h.2]; exact hx⟩
  have HS : Hid (∀ wx, Below W.heap.size W wx → wx.cell? ⟨w.heap.size, 0, none⟩ = some (.int .u8 k) ∧ wx.cell? ⟨w.heap.size, 1, none⟩ = some (.int .i64 n) ∧ wx.cell? ⟨w.heap.size, 2, none⟩ = some (.float .f64 f) ∧ wx.cell? ⟨w.heap.size, 3, none⟩ = some (.string s)) := fun wx hx =>
    ⟨(hx.cell (p := ⟨w.heap.size, 0, none⟩) zg).trans c0, (hx.cell (p := ⟨w.heap.size, 1, none⟩) zg).trans c1, (hx.cell (p := ⟨w.heap.size, 2, none⟩) zg).trans c2, (hx.cell (p := ⟨w.heap.size, 3, none⟩) zg).trans c3⟩
  clear g0 N0 N1 H5
  go_upto_region 5 with fail
  go_region_held3 (fun w' => w'.cell? ⟨w.heap.size, 0, none⟩ = some (.int .u8 k) ∧ w'.cell? ⟨w.heap.size, 1, none⟩ = some (.int .i64 n) ∧ w'.cell? ⟨w.heap.size, 2, none⟩ = some (.float .f64 f) ∧ w'.cell? ⟨w.heap.size, 3, none⟩ = some (.string s)) (first | assumption | go_keep) (first
    | (go_at_call 23; refine (SU.out _ ?_).mono ?_; (first | exact Below.refl _ _ | exact below_drewN (Below.refl _ _) _ | exact (below_drewN (Below.refl _ _) _).drew); rintro e w1 ⟨rfl, b1⟩; have s1 := HS.out _ b1)
    | (go_at_call 24; refine (SR.out _ ?_).mono ?_; (first | exact b1 | exact below_drewN b1 _ | exact (below_drewN b1 _).drew); rintro e w2 ⟨rfl, b2⟩; have s2 := HS.out _ b2)
    | (go_at_call 22; refine (SS.out _ ?_).mono ?_; (first | exact b2 | exact below_drewN b2 _ | exact (below_drewN b2 _).drew); rintro e w3 ⟨rfl, b3⟩; have s3 := HS.out _ b3)
    | (go_at_call 25; refine (SN.out _ ?_).mono ?_; (first | exact b3 | exact below_drewN b3 _ | exact (below_drewN b3 _).drew); rintro e w4 ⟨rfl, b4⟩; have s4 := HS.out _ b4))
  go_wp2
  go_ret
  exact ⟨rfl, bx.trans (b4.mono (by omega))⟩

theorem sums_in (k n : Int) (f : Nat) (s : ByteArray) (m : Int) (j : Nat) (w : World) (hj : j < 12) (h0 : NamesAt 0 w) (h1 : NamesAt 1 w) :
    Calls Tryd.prog 7 #[.agg #[.int .u8 k, .int .i64 n, .float .f64 f, .string s], .int .i64 m, .int .u8 j] w fun e w' => e = .returned (.bool true) ∧ Below w.heap.size w w' :=
  sums_core k n f s m j j 0 (nmB j) w h0 h1 (by have := nmB_size j hj; omega)
    (fun wx h => name_any j wx hj h)
    (fun wx h => (kind_any (nmB j) wx h).mono fun e w' x => ⟨ko_get hj x.1, x.2⟩)
    (fun wx h => (rkind_any (nmB j) wx h).mono fun e w' x => ⟨ko_get hj x.1, x.2⟩)
    (fun wx h => kx_any j hj wx h)
    (fun wx h => rname_any j wx hj h)

theorem no_empty : ∀ j, j < 12 → nmB j ≠ ⟨#[]⟩ := by
  intro j hj e
  have key : ∀ a : Fin 12, nmL.getD a.val [] ≠ [] := by decide +kernel
  have e2 := congrArg (fun x : ByteArray => x.data.toList) e
  exact key ⟨j, hj⟩ (by simpa [nmB] using e2)
theorem k0_any (w : World) (h : NamesAt 0 w) : Calls Tryd.prog 20 #[.string ((⟨#[]⟩ : ByteArray) ++ (⟨#[120]⟩ : ByteArray))] w fun e w' => e = .returned (.tuple #[.int .u8 0, .int .i64 4]) ∧ w' = w := by
  have hk : ∀ e, KO ((⟨#[]⟩ : ByteArray) ++ (⟨#[120]⟩ : ByteArray)) e → e = .returned (.tuple #[.int .u8 0, .int .i64 4]) := fun e h => ko_none_of (no_x ⟨#[]⟩ (Or.inr rfl)) h
  generalize (⟨#[]⟩ : ByteArray) ++ (⟨#[120]⟩ : ByteArray) = T at hk ⊢
  refine (kind_any T w h).mono ?_
  rintro e w' ⟨x, rfl⟩
  exact ⟨hk _ x, rfl⟩
theorem sums_out (k n : Int) (f : Nat) (s : ByteArray) (m : Int) (K : Int) (w : World) (hK : 12 ≤ K) (hK2 : K ≤ 255) (h0 : NamesAt 0 w) (h1 : NamesAt 1 w) :
    Calls Tryd.prog 7 #[.agg #[.int .u8 k, .int .i64 n, .float .f64 f, .string s], .int .i64 m, .int .u8 K] w fun e w' => e = .returned (.bool true) ∧ Below w.heap.size w w' :=
  sums_core k n f s m K 0 4 ⟨#[]⟩ w h0 h1 (by decide)
    (fun wx h => name_none K wx hK hK2)
    (fun wx h => (kind_any ⟨#[]⟩ wx h).mono fun e w' x => ⟨ko_none_of no_empty x.1, x.2⟩)
    (fun wx h => (rkind_any ⟨#[]⟩ wx h).mono fun e w' x => ⟨ko_none_of no_empty x.1, x.2⟩)
    (fun wx h => k0_any wx h)
    (fun wx h => rname_none K wx hK)
end Go.Proofs.YtdgbjmhmacgaaaaDoor
