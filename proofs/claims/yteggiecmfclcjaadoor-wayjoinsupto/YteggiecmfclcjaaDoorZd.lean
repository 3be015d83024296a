import Derived.Test.YteggiecmfclcjaaDoorZc
import Derived.Test.YteggiecmfclcjaaDoorYi
import Derived.Lib.AppendZeros
namespace Go.Proofs.YteggiecmfclcjaaDoor
open Go.RowKit
set_option linter.unusedVariables false
set_option linter.unusedSimpArgs false

theorem intU : Tryd.prog.underlying 3 = some (.int .i64) := Tryd.underlying3
set_option maxRecDepth 100000 in
set_option maxHeartbeats 2000000 in
theorem grow_any (n : Nat) (w : World) (hn : n ≤ 4398046510976) :
    Calls Tryd.prog 21 #[.slice none 0 0, .int .i64 (n : Int)] w fun e w' => ∃ v, e = .returned v ∧ OwnS w' w.heap.size v [] ∧ Below w.heap.size w w' := by
  obtain ⟨i, hi, hz, hs, hby⟩ := infoS
  by_cases h0 : n = 0
  · subst h0
    have N0 := Hid.mk' (OwnS.nil w w.heap.size)
    go_enter Tryd.func21, Tryd.ntmps21
    go_wp2
    go_ret
    exact ⟨_, rfl, N0.out, Below.refl _ _⟩
  · have h0' : (0 : Int) < (n : Int) := by omega
    have hm : ¬ (n : Int) < 0 := by omega
    have hr := Hid.mk' (Lib.run_append_nil_zeros (P := Tryd.prog) w 22 3 22 32 i (.agg zSt.c) .i64 .i64 Tryd.underlying22 intU hi hz n (by omega) (by omega) (by omega) (by rw [hby]; omega))
    have hcap : grownCap w n 0 32 ≤ maxLen := grownCap_le_maxLen w n 0 32 (by unfold maxLen; omega)
    have hge := grownCap_ge w n 0 32
    have hsz : (Builtin.zeroCells (Value.agg zSt.c).cells n ++ Builtin.zeroCells (Value.agg zSt.c).cells (grownCap w n 0 32 - n)).size = grownCap w n 0 32 * 3 := by
      rw [Array.size_append, size_zeroCells, size_zeroCells]
      show n * 3 + (grownCap w n 0 32 - n) * 3 = _
      omega
    have OW := Hid.mk' (World.ownsRow_made (base := w.heap.size) (e := 32) (size := 3) w.drew (Builtin.zeroCells (Value.agg zSt.c).cells n ++ Builtin.zeroCells (Value.agg zSt.c).cells (grownCap w n 0 32 - n)) (grownCap w n 0 32) (Nat.le_refl _) hcap hsz)
    have BW : Hid (Below w.heap.size w (w.drew.alloc (.cells (Builtin.zeroCells (Value.agg zSt.c).cells n ++ Builtin.zeroCells (Value.agg zSt.c).cells (grownCap w n 0 32 - n)) 32))) := ((Below.refl _ _).drew).alloc (Nat.le_refl _) _
    generalize Builtin.zeroCells (Value.agg zSt.c).cells n ++ Builtin.zeroCells (Value.agg zSt.c).cells (grownCap w n 0 32 - n) = C at *
    generalize grownCap w n 0 32 = cap at *
    have hc0 : (0 : Int) ≤ (cap : Int) := by omega
    clear hi hz hs hby hcap hge hsz h0
    go_enter Tryd.func21, Tryd.ntmps21
    go_wp2_with (first | (at_builtin; refine Lib.wpList_append_run _ rfl (.tmp 20) (.tmp 21) 22 3 rfl (.slice none 0 0) (.int .i64 (n : Int)) rfl rfl _ _ hr.out ?_) | fail)
    go_ret
    exact ⟨_, rfl, OW.out, BW.out⟩
end Go.Proofs.YteggiecmfclcjaaDoor
