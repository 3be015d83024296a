import Derived.Test.YtphpaaajfcbafaaDoorQd
namespace Go.Proofs.YtphpaaajfcbafaaDoor.K
open Go.RowKit
set_option linter.unusedVariables false
set_option linter.unusedSimpArgs false

/-- A stretch's cells, at a place. -/
structure SC (w : World) (b o : Nat) (row : Bool) (cnt : Int) (a : Option Addr) (cap : Nat) (X : List Nat) : Prop where
  c0 : w.cell? ⟨b, o, none⟩ = some (.bool row)
  c1 : w.cell? ⟨b, o + 1, none⟩ = some (.int .i64 cnt)
  c2 : w.cell? ⟨b, o + 2, none⟩ = some (.slice a X.length cap)
  nums : Nums w a X
theorem SC.below {w w' : World} {b o : Nat} {row : Bool} {cnt : Int} {a : Option Addr} {cap : Nat} {X : List Nat} (h : SC w b o row cnt a cap X) (hb : Below w.heap.size w w') : SC w' b o row cnt a cap X :=
  ⟨(hb.cell (p := ⟨b, o, none⟩) (block_lt_of_cell h.c0)).trans h.c0, (hb.cell (p := ⟨b, o + 1, none⟩) (block_lt_of_cell h.c1)).trans h.c1, (hb.cell (p := ⟨b, o + 2, none⟩) (block_lt_of_cell h.c2)).trans h.c2, h.nums.below hb⟩
theorem SC.drew {w : World} {b o : Nat} {row : Bool} {cnt : Int} {a : Option Addr} {cap : Nat} {X : List Nat} (h : SC w b o row cnt a cap X) (m : Nat) : SC (w.drewN m) b o row cnt a cap X := h.below (below_drewN (Below.refl _ _) m)
set_option maxRecDepth 100000 in
theorem index68 (b n cap k : Nat) (w : World) (hk : k < n) : (Instr.indexAt 68 (.slice (some ⟨b, 0, none⟩) n cap) (.int .i64 (k : Int))).run Tryd.prog w = .ok (.pointer (some ⟨b, 3 * k, none⟩)) w := by
  rw [run_indexAt_slice (P := Tryd.prog) _ _ _ _ _ _ _ Tryd.underlying68]
  have hsz : (sizeOf (Tryd.prog.elem 68)).run Tryd.prog w = .ok 3 w := by kernel_rfl
  simp [hk, hsz, Addr.add_mid]
  try omega
set_option maxRecDepth 100000 in
set_option maxHeartbeats 2000000 in
/-- fits, ahead nothing. -/
theorem fits_none (b o : Nat) (row : Bool) (cnt : Int) (a : Option Addr) (cap : Nat) (X : List Nat) (ah : Option Addr) (ca : Nat) (w : World) (h : SC w b o row cnt a cap X) (h0 : 0 < X.length) (hl : X.length ≤ 17592186044416) :
    Calls Tryd.prog 50 #[.pointer (some ⟨b, o, none⟩), .slice ah 0 ca] w fun e w' => e = .returned (.bool (fitsB row X none)) ∧ ∃ m, w' = w.drewN m := by
  have HU := Hid.mk' (fun m => unlike_any a X X.length cap (w.drewN m) rfl (h.nums.drew m) h0 hl)
  have hu2 := ul_le X
  obtain ⟨c0, c1, c2, _⟩ := h
  unfold fitsB
  cases row
  · rw [if_neg (by simp)]
    go_enter Tryd.func50, Tryd.ntmps50
    go_wp2
    go_quiet (fail)
    go_wp2
    go_ret
    exact ⟨rfl, _, rfl⟩
  · by_cases hu : ul X < X.length
    · rw [if_pos ⟨rfl, hu⟩]
      have hu' : (ul X : Int) < (X.length : Int) := by omega
      generalize ul X = u at *
      generalize X.length = n at *
      go_enter Tryd.func50, Tryd.ntmps50
      go_wp2
      go_quiet (first | (go_at_call 27; exact Calls.quiet_of (HU.out _)) | fail)
      go_wp2
      go_ret
      exact ⟨rfl, _, rfl⟩
    · rw [if_neg (by simp; omega)]
      have hu' : ¬ (ul X : Int) < (X.length : Int) := by omega
      generalize ul X = u at *
      generalize X.length = n at *
      go_enter Tryd.func50, Tryd.ntmps50
      go_wp2
      go_quiet (first | (go_at_call 27; exact Calls.quiet_of (HU.out _)) | fail)
      go_wp2
      go_ret
      exact ⟨rfl, _, rfl⟩
set_option maxRecDepth 100000 in
set_option maxHeartbeats 4000000 in
/-- fits, ahead some. -/
theorem fits_some (b o : Nat) (row : Bool) (cnt : Int) (a : Option Addr) (cap : Nat) (X : List Nat) (g k ca : Nat) (brow : Bool) (bcnt : Int) (ba : Option Addr) (bcap : Nat) (Y : List Nat) (w : World) (h : SC w b o row cnt a cap X) (h0 : 0 < X.length) (hl : X.length ≤ 17592186044416)
    (hB : SC w g (3 * k) brow bcnt ba bcap Y) (hY : 0 < Y.length) (hlY : Y.length ≤ 17592186044416) (hk : k ≤ 17592186044416) :
    Calls Tryd.prog 50 #[.pointer (some ⟨b, o, none⟩), .slice (some ⟨g, 0, none⟩) (k + 1) ca] w fun e w' => e = .returned (.bool (fitsB row X (some (brow, Y.getD (Y.length - 1) 0)))) ∧ ∃ m, w' = w.drewN m := by
  have HU := Hid.mk' (fun m => unlike_any a X X.length cap (w.drewN m) rfl (h.nums.drew m) h0 hl)
  have HF := Hid.mk' (fun m => first_any b o a cap X (w.drewN m) (h.drew m).c2 (h.drew m).nums h0)
  have HL := Hid.mk' (fun m => last_any g (3 * k) ba bcap Y (w.drewN m) (hB.drew m).c2 (hB.drew m).nums hY hlY)
  have hu2 := ul_le X
  obtain ⟨c0, c1, c2, _⟩ := h
  obtain ⟨d0, d1, d2, _⟩ := hB
  have ix := fun W => index68 g (k + 1) ca k W (by omega)
  have ek : ((k + 1 : Nat) : Int) - 1 = (k : Int) := by omega
  have ek0 : (((k + 1 : Nat) : Int) == 0) = false := by simp; omega
  have hkk : k < k + 1 := by omega
  generalize hk1 : k + 1 = k1 at *
  have hk1b : k1 ≤ 17592186044417 := by omega
  generalize hk3 : 3 * k = k3 at *
  clear hk1 hk3 d1 d2 c1
  generalize hx : X.getD 0 0 = x at *
  generalize hy : Y.getD (Y.length - 1) 0 = y at *
  have hx1 : X[0]?.getD 0 = x := by rw [← hx, List.getD_eq_getElem?_getD]
  clear hx hy
  generalize hR : fitsB row X (some (brow, y)) = R
  have HR := Hid.mk' hR
  clear hR
  cases row
  · by_cases hxy : x = y
    · subst hxy
      obtain rfl : R = false := by rw [← HR.out]; simp [fitsB, hx1]
      clear HR hx1
      go_enter Tryd.func50, Tryd.ntmps50
      go_wp2
      go_quiet (fail)
      go_wp2_with (first
        | (go_at_call 54; refine (HF.out _).mono ?_; rintro e W1 ⟨rfl, m1, rfl⟩)
        | (go_at_call 61; refine (HL.out _).mono ?_; rintro e W2 ⟨rfl, m2, rfl⟩)
        | fail)
      go_ret
      exact ⟨by first | rfl | exact ret_bool (by simp; omega) | exact ret_bool (by simp), _, by first | rfl | exact World.drewN_drewN _ _ _⟩
    · obtain rfl : R = true := by rw [← HR.out]; simp [fitsB, hx1, hxy]
      have hxy1 : ((x : Int) == (y : Int)) = false := by simp; omega
      clear HR hx1
      go_enter Tryd.func50, Tryd.ntmps50
      go_wp2
      go_quiet (fail)
      go_wp2_with (first
        | (go_at_call 54; refine (HF.out _).mono ?_; rintro e W1 ⟨rfl, m1, rfl⟩)
        | (go_at_call 61; refine (HL.out _).mono ?_; rintro e W2 ⟨rfl, m2, rfl⟩)
        | fail)
      go_ret
      exact ⟨by first | rfl | exact ret_bool (by simp; omega) | exact ret_bool (by simp), _, by first | rfl | exact World.drewN_drewN _ _ _⟩
  · by_cases hu : ul X < X.length
    · obtain rfl : R = false := by rw [← HR.out]; simp [fitsB, hu]
      have hu' : (ul X : Int) < (X.length : Int) := by omega
      clear HR hx1
      generalize ul X = u at *
      generalize X.length = n at *
      go_enter Tryd.func50, Tryd.ntmps50
      go_wp2
      go_quiet (first | (go_at_call 27; exact Calls.quiet_of (HU.out _)) | fail)
      go_wp2
      go_ret
      exact ⟨rfl, _, rfl⟩
    · have hu' : ¬ (ul X : Int) < (X.length : Int) := by omega
      cases brow
      · have hfx : fitsB true X (some (false, y)) = decide (x ≠ y) := by simp [fitsB, hu, hx1]
        rw [hfx] at HR
        clear hfx hx1
        generalize ul X = u at *
        generalize X.length = n at *
        by_cases hxy : x = y
        · subst hxy
          obtain rfl : R = false := by rw [← HR.out]; simp
          clear HR
          go_enter Tryd.func50, Tryd.ntmps50
          go_wp2
          go_quiet (first | (go_at_call 27; exact Calls.quiet_of (HU.out _)) | fail)
          go_wp2_with (first
            | (go_at_call 54; refine (HF.out _).mono ?_; rintro e W1 ⟨rfl, m1, rfl⟩)
            | (go_at_call 61; refine (HL.out _).mono ?_; rintro e W2 ⟨rfl, m2, rfl⟩)
            | fail)
          go_ret
          exact ⟨by first | rfl | exact ret_bool (by simp; omega) | exact ret_bool (by simp), _, by first | rfl | exact World.drewN_drewN _ _ _⟩
        · obtain rfl : R = true := by rw [← HR.out]; simp [hxy]
          have hxy1 : ((x : Int) == (y : Int)) = false := by simp; omega
          clear HR
          go_enter Tryd.func50, Tryd.ntmps50
          go_wp2
          go_quiet (first | (go_at_call 27; exact Calls.quiet_of (HU.out _)) | fail)
          go_wp2_with (first
            | (go_at_call 54; refine (HF.out _).mono ?_; rintro e W1 ⟨rfl, m1, rfl⟩)
            | (go_at_call 61; refine (HL.out _).mono ?_; rintro e W2 ⟨rfl, m2, rfl⟩)
            | fail)
          go_ret
          exact ⟨by first | rfl | exact ret_bool (by simp; omega) | exact ret_bool (by simp), _, by first | rfl | exact World.drewN_drewN _ _ _⟩
      · obtain rfl : R = false := by rw [← HR.out]; simp [fitsB]
        clear HR hx1
        generalize ul X = u at *
        generalize X.length = n at *
        go_enter Tryd.func50, Tryd.ntmps50
        go_wp2
        go_quiet (first | (go_at_call 27; exact Calls.quiet_of (HU.out _)) | fail)
        go_wp2
        go_ret
        exact ⟨rfl, _, rfl⟩
end Go.Proofs.YtphpaaajfcbafaaDoor.K
