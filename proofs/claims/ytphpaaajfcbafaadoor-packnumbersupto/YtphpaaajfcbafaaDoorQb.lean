import Derived.Test.YtphpaaajfcbafaaDoorQa
import Derived.Test.YtphpaaajfcbafaaDoorPi
namespace Go.Proofs.YtphpaaajfcbafaaDoor.K
open Go.RowKit
set_option linter.unusedVariables false
set_option linter.unusedSimpArgs false

variable {r cap : Nat} {a : Option Addr} {L : List UInt8} {s : St}
set_option maxRecDepth 100000 in
set_option maxHeartbeats 400000 in
theorem pstop_any (w : World) (h : RD w 90 r a cap L s) :
    Calls Tryd.prog 33 #[.pointer (some ⟨r, 0, none⟩)] w fun e w' => e = .returned (.bool (decide (s.bad ≠ 0))) ∧ ∃ m, w' = w.drewN m := by
  have HF := Hid.mk' (fault_any w h)
  clear h
  by_cases hb : s.bad = 0
  · have e0 : decide (s.bad ≠ 0) = false := by simp [hb]
    rw [e0]
    rw [hb] at HF
    go_enter Tryd.func33, Tryd.ntmps33
    go_wp2_with fail
    refine HF.out.mono ?_
    rintro e w1 ⟨rfl, m, rfl⟩
    go_wp2
    go_ret
    exact ⟨rfl, _, rfl⟩
  · have e0 : decide (s.bad ≠ 0) = true := by simp [hb]
    have e1 : (s.bad == 0) = false := by simp [hb]
    rw [e0]
    generalize s.bad = bd at *
    clear e0
    go_enter Tryd.func33, Tryd.ntmps33
    go_wp2_with fail
    refine HF.out.mono ?_
    rintro e w1 ⟨rfl, m, rfl⟩
    go_wp2
    go_ret
    exact ⟨ret_bool (by simp [hb]), _, rfl⟩
set_option maxRecDepth 100000 in
set_option maxHeartbeats 400000 in
theorem first_any (b o : Nat) (a : Option Addr) (cap : Nat) (X : List Nat) (w : World) (hc : w.cell? ⟨b, o + 2, none⟩ = some (.slice a X.length cap)) (hX : Nums w a X) (h0 : 0 < X.length) :
    Calls Tryd.prog 54 #[.pointer (some ⟨b, o, none⟩)] w fun e w' => e = .returned (.int .u64 ((X.getD 0 0 : Nat) : Int)) ∧ ∃ m, w' = w.drewN m := by
  obtain ⟨b1, o1, rfl, hb1, hc1⟩ := hX.open h0
  have c1 : w.cell? ⟨b1, o1, none⟩ = some (.int .u64 ((X.getD 0 0 : Nat) : Int)) := hc1 0 h0
  generalize X.getD 0 0 = x at *
  clear hX hc1
  go_enter Tryd.func54, Tryd.ntmps54
  go_wp2
  go_ret
  exact ⟨rfl, 0, rfl⟩
set_option maxRecDepth 100000 in
set_option maxHeartbeats 400000 in
theorem last_any (b o : Nat) (a : Option Addr) (cap : Nat) (X : List Nat) (w : World) (hc : w.cell? ⟨b, o + 2, none⟩ = some (.slice a X.length cap)) (hX : Nums w a X) (h0 : 0 < X.length) (hl : X.length ≤ 17592186044416) :
    Calls Tryd.prog 61 #[.pointer (some ⟨b, o, none⟩)] w fun e w' => e = .returned (.int .u64 ((X.getD (X.length - 1) 0 : Nat) : Int)) ∧ ∃ m, w' = w.drewN m := by
  obtain ⟨b1, o1, rfl, hb1, hc1⟩ := hX.open h0
  have c1 := hc1 (X.length - 1) (by omega)
  obtain ⟨q, hq⟩ : ∃ q, X.length = q + 1 := ⟨X.length - 1, by omega⟩
  rw [hq, show q + 1 - 1 = q by omega] at c1 ⊢
  rw [hq] at hc
  generalize X.getD q 0 = x at *
  have hq2 : q ≤ 17592186044416 := by omega
  have e1 : ((q + 1 : Nat) : Int) - 1 = (q : Int) := by omega
  have hlt : q < q + 1 := by omega
  clear hX hc1 hq h0 hl
  generalize hz : q + 1 = k at *
  clear hz
  go_enter Tryd.func61, Tryd.ntmps61
  go_wp2
  go_quiet (fail)
  go_wp2
  go_ret
  exact ⟨rfl, _, rfl⟩
/-- fits' answer. -/
def fitsB (row : Bool) (X : List Nat) (prev : Option (Bool × Nat)) : Bool :=
  if row = true ∧ ul X < X.length then false else match prev with
    | none => true
    | some (br, bl) => !(row && br) && decide (X.getD 0 0 ≠ bl)
end Go.Proofs.YtphpaaajfcbafaaDoor.K
