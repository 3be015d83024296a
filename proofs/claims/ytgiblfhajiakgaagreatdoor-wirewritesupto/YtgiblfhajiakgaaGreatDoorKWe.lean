import Derived.Test.YtgiblfhajiakgaaGreatDoorKWd
import Derived.Test.YtgiblfhajiakgaaGreatDoorKPf
namespace Go.Proofs.YtgiblfhajiakgaaGreatDoor.K
open Go.RowKit
set_option linter.unusedVariables false
set_option linter.unusedSimpArgs false

def b8 (f : Nat) : List UInt8 := b4 (f / 4294967296) ++ b4 (f % 4294967296)
variable {p : Nat} {g : Option Nat} {M : List UInt8} {e : Int}
theorem WS.glt {w : World} {T : TypeId} (h : WS w T p g M e) {k : Nat} (hk : g = some k) : k < w.heap.size := by
  obtain ⟨v, h1, h2, h3⟩ := h.ex
  exact (World.ownsRow.lt h2 k (h3.trans hk)).2
theorem wfix_wr (w : World) (hsum : M.length + 64 ≤ 140737488355328) (n : Nat) (hn : n < 4294967296) (v : Int) (hv : v = (n : Int)) (P : List UInt8) (hP : P.length ≤ 50) (wx : World) (hx : Wr w wx 28 p g (wA M e P) e) : Calls Tryz.prog 37 #[.pointer (some ⟨p, 0, none⟩), .int .u32 v] wx fun x w' => x = .returned (.tuple #[]) ∧ Wr w w' 28 p g (wA M e (P ++ b4 n)) e := by
  subst hv
  obtain ⟨g1, ws, fr, nw⟩ := hx
  refine (wfix_any n hn wx ws (by have := wA_len M e P; omega)).mono fun x w' h => ?_
  rw [wA_wA] at h
  exact ⟨h.1, Wr.step fr nw h.2⟩
set_option maxRecDepth 100000 in
set_option maxHeartbeats 1000000 in
theorem wfloat_any (f : Nat) (hf : f < 18446744073709551616) (hfin : finB f = true) (w : World) (hw : WS w 28 p g M e) (hsum : M.length + 64 ≤ 140737488355328) :
    Calls Tryz.prog 29 #[.pointer (some ⟨p, 0, none⟩), .float .f64 f] w fun x w' => x = .returned (.tuple #[]) ∧ Wr w w' 28 p g (wA M e (b8 f)) e := by
  have HFX := Hid.mk' (fun (n : Nat) (hn : n < 4294967296) (v : Int) (hv : v = (n : Int)) (P : List UInt8) (hP : P.length ≤ 50) (wx : World) hx => wfix_wr (p := p) (g := g) (M := M) (e := e) w hsum n hn v hv P hP wx hx)
  have h0 : Hid (Wr w w 28 p g (wA M e []) e) := by show Wr _ _ _ _ _ _ _; rw [wA_nil]; exact hw.wr
  have h1 : finN f = true := by unfold finB at hfin; simp at hfin; exact hfin.1
  have h2 : f ≠ 9223372036854775808 := by unfold finB at hfin; simp at hfin; exact hfin.2
  have HF := Hid.mk' (fun (wx : World) => fin_any f wx hf)
  rw [h1] at HF
  have hff : ffin f := by unfold finN at h1; unfold ffin; simp at h1; omega
  clear hw hsum hfin h1
  by_cases hz : f = 0
  · subst hz
    have z : (FloatKind.f64.format.order 0 0 == some .eq) = true := by decide +kernel
    go_enter Tryz.func29, Tryz.ntmps29
    go_wp2_with fail
    refine (HF.out _).mono ?_
    rintro x w1 ⟨rfl, hw1⟩
    subst hw1
    go_wp2_with fail
    refine (HFX.out 0 (by decide) _ (by first | rfl | omega) [] (by decide) _ h0.out).mono ?_
    rintro x w2 ⟨rfl, a2⟩
    have A2 := Hid.mk' a2
    clear a2
    go_wp2_with fail
    refine (HFX.out 0 (by decide) _ (by first | rfl | omega) _ (by simp [b4]) _ A2.out).mono ?_
    rintro x w3 ⟨rfl, a3⟩
    have A3 := Hid.mk' a3
    clear a3
    go_wp2
    go_end0
    exact ⟨rfl, A3.out⟩
  · have z : (FloatKind.f64.format.order f 0 == some .eq) = false := by
      have : (FloatKind.f64.format.order f 0 != some .eq) = true := ford_zero f hff (by omega)
      simpa [bne] using this
    go_enter Tryz.func29, Tryz.ntmps29
    go_wp2_with fail
    refine (HF.out _).mono ?_
    rintro x w1 ⟨rfl, hw1⟩
    subst hw1
    go_wp2_with fail
    refine (HFX.out (f / 4294967296) (by omega) _ (by first | rfl | omega | (simp only [IntKind.wrap_u32]; omega)) [] (by decide) _ h0.out).mono ?_
    rintro x w2 ⟨rfl, a2⟩
    have A2 := Hid.mk' a2
    clear a2
    go_wp2_with fail
    refine (HFX.out (f % 4294967296) (by omega) _ (by first | rfl | omega | (simp only [IntKind.wrap_u32]; omega)) _ (by simp [b4]) _ A2.out).mono ?_
    rintro x w3 ⟨rfl, a3⟩
    have A3 := Hid.mk' a3
    clear a3
    go_wp2
    go_end0
    exact ⟨rfl, A3.out⟩
end Go.Proofs.YtgiblfhajiakgaaGreatDoor.K
