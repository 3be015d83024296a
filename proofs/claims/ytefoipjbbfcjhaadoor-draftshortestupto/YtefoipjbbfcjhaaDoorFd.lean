import Derived.Test.YtefoipjbbfcjhaaDoorFc
import Derived.Test.YtefoipjbbfcjhaaDoorDi
namespace Go.Proofs.YtefoipjbbfcjhaaDoor
open Go.RowKit
set_option linter.unusedVariables false
set_option linter.unusedSimpArgs false

/-- A row of numbers that the call made. -/
structure Rw (w0 wr : World) (T m : Nat) (F : Nat → Nat) : Prop where
  bel : Below w0.heap.size w0 wr
  row : wr.rowIs T 3 m (fun q => .int .i64 (F q : Int))
  low : w0.heap.size ≤ T
theorem Rw.start (w : World) (m : Nat) (F : Nat → Nat) (hF : ∀ q, q < m → F q = 0) : Rw w (w.alloc (.cells (madeCells #[.int .i64 0] m) 3)) w.heap.size m F :=
  ⟨(Below.refl _ _).alloc (Nat.le_refl _) _, (World.rowIs_made w (.int .i64 0) m 3).congr (fun q hq => by rw [hF q hq]; rfl), Nat.le_refl _⟩
theorem Rw.drew {w0 wr : World} {T m : Nat} {F : Nat → Nat} (h : Rw w0 wr T m F) (q : Nat) : Rw w0 (wr.drewN q) T m F := ⟨below_drewN h.bel q, h.row, h.low⟩
theorem Rw.set {w0 wr : World} {T m : Nat} {F G : Nat → Nat} (h : Rw w0 wr T m F) {j : Nat} (x : Nat) (hG : ∀ q, q < m → G q = if q = j then x else F q) : Rw w0 (wr.setCell ⟨T, j, none⟩ (.int .i64 (x : Int))) T m G := by
  refine ⟨h.bel.setCell h.low _, (h.row.set j _).congr fun q hq => ?_, h.low⟩
  rw [hG q hq]
  by_cases e2 : q = j
  · rw [if_pos e2, if_pos e2]
  · rw [if_neg e2, if_neg e2]
theorem Rw.congr {w0 wr : World} {T m : Nat} {F G : Nat → Nat} (h : Rw w0 wr T m F) (hG : ∀ q, q < m → G q = F q) : Rw w0 wr T m G := ⟨h.bel, h.row.congr fun q hq => by rw [hG q hq], h.low⟩
structure CmF (la lb : Nat) (a b : Nat → Nat) (G : Nat → Nat → Nat) : Prop where
  z1 : ∀ j, G 0 j = 0
  z2 : ∀ i, G i 0 = 0
  same : ∀ i j, i < la → j < lb → a i = b j → G (i + 1) (j + 1) = G i j + 1
  diff : ∀ i j, i < la → j < lb → ¬ a i = b j → G (i + 1) (j + 1) = max (G i (j + 1)) (G (i + 1) j)
  le : ∀ i j, G i j ≤ la
theorem cmF (A B : List Nat) : CmF A.length B.length (fun i => A.getD i 0) (fun j => B.getD j 0) (lp A B) :=
  ⟨lp_zero A B, lp_zero2 A B, fun i j hi hj h => lp_same hi hj h, fun i j hi hj h => lp_diff hi hj h, lp_le A B⟩
/-- The row within a line: up to j it is the new one. -/
def mixG (G : Nat → Nat → Nat) (i j q : Nat) : Nat := if q ≤ j then G (i + 1) q else G i q
set_option maxRecDepth 100000 in
set_option maxHeartbeats 4000000 in
theorem common_abs (la lb : Nat) (av bv : Nat → Nat) (G : Nat → Nat → Nat) (aA aB : Option Addr) (cA cB : Nat) (w : World) (EV : Nat → ByteArray) (HE : Hid (∀ i j, i < la → j < lb → (EV (av i) = EV (bv j) ↔ av i = bv j))) (HG : Hid (CmF la lb av bv G)) (HA : Hid (Chs w aA la (fun i => .string (EV (av i))))) (HB : Hid (Chs w aB lb (fun i => .string (EV (bv i))))) (h1 : la ≤ 2000) (h2 : lb ≤ 2000) :
    Calls Tryd.prog 11 #[.slice aA la cA, .slice aB lb cB] w fun e w' => e = .returned (.int .i64 (G la lb : Int)) ∧ Below w.heap.size w w' := by
  have mk2 := run_make_row' (P := Tryd.prog) 47 3 (.int .i64 0) 8 Tryd.underlying47 info3 rfl .i64 .i64 (lb + 1) (by omega) (by omega)
  have e2 : ((lb + 1 : Nat) : Int) = (lb : Int) + 1 := by omega
  rw [e2] at mk2
  have H0 := Hid.mk' (Rw.start w (lb + 1) (G 0) (fun q _ => HG.out.z1 q))
  clear e2
  go_enter Tryd.func11, Tryd.ntmps11
  go_wp2
  generalize hT : w.heap.size = T at *
  have HTT := Hid.mk' hT
  clear hT mk2
  go_loopw [6] (fun x wr => ∃ i : Nat, i ≤ la ∧ x = .int .i64 (i : Int) ∧ Hid (Rw w wr T (lb + 1) (G i))) (fun x _ => la - (intOf x).toNat)
  case atStart => exact ⟨0, by omega, rfl, H0⟩
  case round =>
    obtain ⟨i, hi, rfl, HR⟩ := hrel
    clear H0
    by_cases hia : i < la
    · have hia' : (i : Int) < (la : Int) := by omega
      have HR0 : Hid (Rw w wr T (lb + 1) (mixG G i 0)) := HR.out.congr fun q hq => by
        unfold mixG
        split
        · have : q = 0 := by omega
          subst this
          rw [HG.out.z2, HG.out.z2]
        · rfl
      have hz0 := HG.out.z2 i
      have HZ0 := Hid.mk' hz0
      clear HR hz0
      go_wp2
      go_loopw [7, 8] (fun l y wr => ∃ j : Nat, j ≤ lb ∧ y = .int .i64 (j : Int) ∧ l = .int .i64 (G i j : Int) ∧ Hid (Rw w wr T (lb + 1) (mixG G i j))) (fun _ y _ => lb - (intOf y).toNat)
      case atStart => exact ⟨0, by omega, rfl, by rw [HZ0.out]; rfl, HR0⟩
      case round =>
        obtain ⟨j, hj, rfl, rfl, HR⟩ := hrel
        clear HR0 HZ0
        by_cases hjb : j < lb
        · have hjb' : (j : Int) < (lb : Int) := by omega
          have hbw : Below w.heap.size w wr := HR.out.bel
          obtain ⟨ga, rfl, ca⟩ := HA.out _ hbw i hia
          obtain ⟨gb, rfl, cb⟩ := HB.out _ hbw j hjb
          dsimp only at ca cb
          have r1 : wr.cell? ⟨T, j + 1, none⟩ = some (.int .i64 (G i (j + 1) : Int)) := by
            have := HR.out.row.cell (i := j + 1) (by omega)
            rw [this]
            unfold mixG
            rw [if_neg (by omega)]
          have r0 : wr.cell? ⟨T, j, none⟩ = some (.int .i64 (G (i + 1) j : Int)) := by
            have := HR.out.row.cell (i := j) (by omega)
            rw [this]
            unfold mixG
            rw [if_pos (by omega)]
          have r2 := HR.out.row.frozen (j + 1)
          have l1 := HG.out.le i j
          have l2 := HG.out.le i (j + 1)
          have l3 := HG.out.le (i + 1) j
          have HST : Hid (∀ x k, G (i + 1) (j + 1) = x → Rw w ((wr.drewN k).setCell ⟨T, j + 1, none⟩ (.int .i64 (x : Int))) T (lb + 1) (mixG G i (j + 1))) := fun x k hx => (HR.out.drew k).set x (fun q hq => by
            unfold mixG
            by_cases e : q = j + 1
            · subst e
              rw [if_pos (Nat.le_refl _), if_pos rfl, hx]
            · rw [if_neg e]
              by_cases e3 : q ≤ j
              · rw [if_pos (by omega), if_pos e3]
              · rw [if_neg (by omega), if_neg e3])
          have HSK : Hid (∀ k, G (i + 1) (j + 1) = G i (j + 1) → Rw w (wr.drewN k) T (lb + 1) (mixG G i (j + 1))) := fun k hx => (HR.out.drew k).congr (fun q hq => by
            unfold mixG
            by_cases e : q = j + 1
            · subst e
              rw [if_pos (Nat.le_refl _), if_neg (by omega), hx]
            · by_cases e3 : q ≤ j
              · rw [if_pos (by omega), if_pos e3]
              · rw [if_neg (by omega), if_neg e3])
          have HSM := Hid.mk' (HG.out.same i j hia hjb)
          have HDF := Hid.mk' (HG.out.diff i j hia hjb)
          have HEq := Hid.mk' (HE.out i j hia hjb)
          clear HR hbw
          generalize hx00 : G i j = x00 at *
          generalize hx01 : G i (j + 1) = x01 at *
          generalize hx10 : G (i + 1) j = x10 at *
          have HX01 := Hid.mk' hx01
          clear hx00 hx01 hx10
          generalize av i = ac at *
          generalize bv j = bc at *
          by_cases hs : ac = bc
          · have hse : EV ac = EV bc := by rw [hs]
            have HST2 := Hid.mk' (fun k => HST.out (x00 + 1) k (HSM.out hs))
            rw [hse] at ca
            clear HST HSK HSM HDF HEq hse hs
            generalize EV bc = eb at *
            go_wp2
            go_quiet (fail)
            go_wp2
            go_roundw
            case rel => exact ⟨j + 1, by omega, by go_num, by rw [HX01.out], by exact HST2.out _⟩
            case measure => simp [intOf]; omega
          · have hse : ¬ EV ac = EV bc := fun e => hs (HEq.out.1 e)
            have hse2 := ba_ne hse
            by_cases hge : x01 < x10
            · have hge' : (x01 : Int) < (x10 : Int) := by omega
              have HST2 := Hid.mk' (fun k => HST.out x10 k (by rw [HDF.out hs]; omega))
              clear HST HSK HSM HDF HEq hse hs
              generalize EV bc = eb at *
              generalize EV ac = ea at *
              go_wp2
              go_quiet (fail)
              go_wp2
              go_roundw
              case rel => exact ⟨j + 1, by omega, by go_num, by rw [HX01.out], by exact HST2.out _⟩
              case measure => simp [intOf]; omega
            · have hge' : ¬ (x01 : Int) < (x10 : Int) := by omega
              have HST2 := Hid.mk' (fun k => HSK.out k (by rw [HDF.out hs]; omega))
              clear HST HSK HSM HDF HEq hse hs
              generalize EV bc = eb at *
              generalize EV ac = ea at *
              go_wp2
              go_quiet (fail)
              go_wp2
              go_roundw
              case rel => exact ⟨j + 1, by omega, by go_num, by rw [HX01.out], by exact HST2.out _⟩
              case measure => simp [intOf]; omega
        · obtain rfl : j = lb := by omega
          have hjb' : ¬ (j : Int) < (j : Int) := by omega
          have HR2 : Hid (Rw w wr T (j + 1) (G (i + 1))) := HR.out.congr fun q hq => by
            unfold mixG
            rw [if_pos (by omega)]
          clear HR
          go_wp2
          go_roundw
          case rel => exact ⟨i + 1, by omega, by go_num, HR2⟩
          case measure => simp [intOf]; omega
    · obtain rfl : i = la := by omega
      have hia' : ¬ (i : Int) < (i : Int) := by omega
      have r1 := HR.out.row.cell (i := lb) (by omega)
      have hb := Hid.mk' HR.out.bel
      go_wp2
      go_ret
      exact ⟨rfl, hb.out⟩
end Go.Proofs.YtefoipjbbfcjhaaDoor
