import Derived.Test.YtcpkdaebeopmaaaDoorRq
namespace Go.Proofs.YtcpkdaebeopmaaaDoor
open Go.RowKit
set_option linter.unusedVariables false
set_option linter.unusedSimpArgs false

/-- The number that the first i bytes from k on are. -/
def accR (l : List UInt8) (k : Nat) : Nat → Nat
  | 0 => 0
  | i + 1 => accR l k i * 256 + b4n l (k + i)
theorem accR_lt (l : List UInt8) (k : Nat) : ∀ i, accR l k i < 256 ^ i
  | 0 => by simp [accR]
  | i + 1 => by
    have := accR_lt l k i
    have := b4n_lt l (k + i)
    simp only [accR, Nat.pow_succ]
    omega
theorem accR_4 (l : List UInt8) (k : Nat) : accR l k 4 = rd l k := by
  simp only [accR, rd, Nat.add_zero]
  omega
theorem rdw_drop (l : List UInt8) (k : Nat) : U (rdw (l.drop k)) = (rd l k : Int) := by
  unfold U
  rw [rdw_nat, rd_drop]

set_option maxRecDepth 100000 in
set_option maxHeartbeats 1000000 in
theorem rrfix_any (q base : Nat) (l : List UInt8) (k : Nat) (w : World) (hw : RRAt w q base l k) (hj : k + 4 ≤ l.length) (hl : l.length ≤ 140737488355328) :
    Calls Tryd.prog 58 #[.pointer (some ⟨q, 0, none⟩)] w fun e w' => e = .returned (.int .u32 (rd l k : Int)) ∧ RRAt w' q base l (k + 4) ∧ Below base w w' := by
  have RE : Hid (Calls Tryd.prog 77 #[.pointer (some ⟨q, 0, none⟩), .int .i64 4] w fun e w' => e = .returned (.bool false) ∧ ∃ m, w' = w.drewN m) := rends_any q base l k 4 w hw hj hl
  have hW : Hid (RRAt w q base l k) := hw
  clear hw
  go_enter Tryd.func58, Tryd.ntmps58
  go_wp2_with fail
  refine RE.out.mono ?_
  rintro e w1 ⟨rfl, m, rfl⟩
  clear RE
  have b1 : Below base w (w.drewN m) := below_drewN (Below.refl _ _) m
  have hw1 : RRAt (w.drewN m) q base l k := by
    obtain ⟨v, h1, h2, h3⟩ := hW.out
    exact ⟨v, h1, h2.below (below_drewN (Below.refl _ _) m), h3⟩
  generalize w.drewN m = W at *
  clear hW
  obtain ⟨v, hq, own, hne, hbq⟩ := hw1
  obtain ⟨av, cv, rfl, hcv, byv, hav⟩ := own.open
  rcases byv with rfl | ⟨b, off, rfl, hc⟩
  · simp at hj
  have HC : Hid (∀ j, j < l.length → W.cell? ⟨b, off + j, none⟩ = some (.int .u8 (at8 l j))) := hc
  have HQ : Hid (W.heap[q]? = some (.cells #[.slice (some ⟨b, off, none⟩) l.length cv, .int .i64 (k : Int), .int .i64 0, .int .i64 0] 162 (0, 0))) := hq
  clear hc hq
  go_wp2
  go_loopw [3, 4] (fun x i wr => ∃ j : Nat, j ≤ 4 ∧ i = .int .i64 j ∧ x = .int .u32 (accR l k j : Int) ∧ ∃ m, wr = W.drewN m) (fun x i _ => 4 - (intOf i).toNat)
  case atStart => exact ⟨0, by omega, rfl, rfl, 0, rfl⟩
  case round =>
    obtain ⟨j, hj4, rfl, rfl, mm, rfl⟩ := hrel
    have HQ2 : Hid ((W.drewN mm).heap[q]? = some (.cells #[.slice (some ⟨b, off, none⟩) l.length cv, .int .i64 (k : Int), .int .i64 0, .int .i64 0] 162 (0, 0))) := HQ.out
    have HC2 : Hid (∀ j, j < l.length → (W.drewN mm).cell? ⟨b, off + j, none⟩ = some (.int .u8 (at8 l j))) := HC.out
    have B2 : Hid (Below base w (W.drewN mm)) := below_drewN b1 mm
    have O2 : Hid (OwnB (W.drewN mm) base (.slice (some ⟨b, off, none⟩) l.length cv) l) := own.below (below_drewN (Below.refl _ _) mm)
    have EE : Hid (∀ m2, ∃ m3, (W.drewN mm).drewN m2 = W.drewN m3) := fun m2 => ⟨_, World.drewN_drewN _ _ _⟩
    clear HQ HC b1 own
    generalize W.drewN mm = X at *
    have c0 := (cell_of_row X q 0 _ _ _ HQ2.out).trans (show (#[.slice (some ⟨b, off, none⟩) l.length cv, .int .i64 (k : Int), .int .i64 0, .int .i64 0] : Array Value)[0]? = some (.slice (some ⟨b, off, none⟩) l.length cv) from rfl)
    have c1 := (cell_of_row X q 1 _ _ _ HQ2.out).trans (show (#[.slice (some ⟨b, off, none⟩) l.length cv, .int .i64 (k : Int), .int .i64 0, .int .i64 0] : Array Value)[1]? = some (.int .i64 (k : Int)) from rfl)
    by_cases h4 : j < 4
    · have h4' : (j : Int) < 4 := by omega
      have cx := HC2.out (k + j) (by omega)
      have hk : IntKind.i64.wrap ((k : Int) + (j : Int)) = ((k + j : Nat) : Int) := by rw [IntKind.wrap_i64]; omega
      go_upto_region 7 with fail
      go_quiet (fail)
      go_wp2
      have p1 := accR_lt l k (j + 1)
      have p2 : (256 : Nat) ^ (j + 1) ≤ 256 ^ 4 := Nat.pow_le_pow_right (by omega) (by omega)
      have p3 := b4n_lt l (k + j)
      have p4 : at8 l (k + j) = (b4n l (k + j) : Int) := rfl
      simp only [accR] at p1
      refine ⟨⟨j + 1, by omega, by rw [Int.natCast_add]; rfl, ?_, EE.out _⟩, by simp [intOf]; omega⟩
      congr 1
      rw [p4]
      simp only [accR]
      omega
    · have h4' : ¬ (j : Int) < 4 := by omega
      obtain rfl : j = 4 := by omega
      have f1 := frozen_of_row X q 1 _ _ HQ2.out
      have hk4 : IntKind.i64.wrap ((k : Int) + 4) = (k : Int) + 4 := by rw [IntKind.wrap_i64]; omega
      have N1 : Hid ((X.setCell ⟨q, 1, none⟩ (.int .i64 ((k : Int) + 4))).heap[q]? = some (.cells #[.slice (some ⟨b, off, none⟩) l.length cv, .int .i64 ((k : Int) + 4), .int .i64 0, .int .i64 0] 162 (0, 0))) := by show _ = _; rw [heap_setCell_same X q 1 _ 162 _ HQ2.out]; rfl
      have N2 : Hid (OwnB (X.setCell ⟨q, 1, none⟩ (.int .i64 ((k : Int) + 4))) base (.slice (some ⟨b, off, none⟩) l.length cv) l) := own_setCell O2.out hne
      have N3 : Hid (Below base w (X.setCell ⟨q, 1, none⟩ (.int .i64 ((k : Int) + 4)))) := B2.out.setCell hbq _
      have e4 := accR_4 l k
      clear HC2 HQ2 O2 B2 EE
      go_wp2
      go_ret
      exact ⟨rfl, ⟨_, by exact N1.out, N2.out, hne, hbq⟩, N3.out⟩
end Go.Proofs.YtcpkdaebeopmaaaDoor
