import Derived.Test.YtgiblfhajiakgaaGreatDoorNa
import Derived.Test.YtgiblfhajiakgaaGreatDoorHl
namespace Go.Proofs.YtgiblfhajiakgaaGreatDoor
open Go.RowKit
set_option linter.unusedVariables false
set_option linter.unusedSimpArgs false

/-! A nil Reader. -/
set_option maxRecDepth 100000 in
theorem nstop (w : World) : Calls Tryz.prog 104 #[.pointer none] w fun x w' => x = .returned (.bool true) ∧ w' = w := by
  go_enter Tryz.func104, Tryz.ntmps104
  go_wp2
  go_ret
  exact ⟨rfl, rfl⟩
set_option maxRecDepth 100000 in
theorem nrbyte (w : World) : Calls Tryz.prog 75 #[.pointer none] w fun x w' => x = .returned (.int .u8 0) ∧ w' = w := by
  go_enter Tryz.func75, Tryz.ntmps75
  go_wp2_with fail
  refine (nstop _).mono ?_
  rintro x w1 ⟨rfl, h1⟩
  subst h1
  go_wp2
  go_ret
  exact ⟨rfl, rfl⟩
set_option maxRecDepth 100000 in
theorem nrbool (w : World) : Calls Tryz.prog 76 #[.pointer none] w fun x w' => x = .returned (.bool false) ∧ w' = w := by
  go_enter Tryz.func76, Tryz.ntmps76
  go_wp2_with fail
  refine (nstop _).mono ?_
  rintro x w1 ⟨rfl, h1⟩
  subst h1
  go_wp2
  go_ret
  exact ⟨rfl, rfl⟩
set_option maxRecDepth 100000 in
theorem nrfix (w : World) : Calls Tryz.prog 77 #[.pointer none] w fun x w' => x = .returned (.int .u32 0) ∧ w' = w := by
  go_enter Tryz.func77, Tryz.ntmps77
  go_wp2_with fail
  refine (nstop _).mono ?_
  rintro x w1 ⟨rfl, h1⟩
  subst h1
  go_wp2
  go_ret
  exact ⟨rfl, rfl⟩
set_option maxRecDepth 100000 in
theorem nruint (m : Int) (w : World) : Calls Tryz.prog 30 #[.pointer none, .int .u64 m] w fun x w' => x = .returned (.int .u64 0) ∧ w' = w := by
  go_enter Tryz.func30, Tryz.ntmps30
  go_wp2_with fail
  refine (nstop _).mono ?_
  rintro x w1 ⟨rfl, h1⟩
  subst h1
  go_wp2
  go_ret
  exact ⟨rfl, rfl⟩
set_option maxRecDepth 100000 in
theorem nrfloat (w : World) : Calls Tryz.prog 33 #[.pointer none] w fun x w' => x = .returned (.float .f64 0) ∧ w' = w := by
  go_enter Tryz.func33, Tryz.ntmps33
  go_wp2_with fail
  refine (nstop _).mono ?_
  rintro x w1 ⟨rfl, h1⟩
  subst h1
  go_wp2
  go_ret
  exact ⟨rfl, rfl⟩
set_option maxRecDepth 100000 in
theorem nrtext (m : Int) (w : World) : Calls Tryz.prog 32 #[.pointer none, .int .i64 m] w fun x w' => x = .returned (.string ⟨#[]⟩) ∧ w' = w := by
  go_enter Tryz.func32, Tryz.ntmps32
  go_wp2_with fail
  refine (nstop _).mono ?_
  rintro x w1 ⟨rfl, h1⟩
  subst h1
  go_wp2
  go_ret
  exact ⟨rfl, rfl⟩
set_option maxRecDepth 100000 in
theorem nrraw (m : Int) (w : World) : Calls Tryz.prog 78 #[.pointer none, .int .i64 m] w fun x w' => x = .returned (.slice none 0 0) ∧ w' = w := by
  go_enter Tryz.func78, Tryz.ntmps78
  go_wp2_with fail
  refine (nstop _).mono ?_
  rintro x w1 ⟨rfl, h1⟩
  subst h1
  go_wp2
  go_ret
  exact ⟨rfl, rfl⟩
set_option maxRecDepth 100000 in
theorem nrhashes (m : Int) (w : World) : Calls Tryz.prog 80 #[.pointer none, .int .i64 m] w fun x w' => x = .returned (.slice none 0 0) ∧ w' = w := by
  go_enter Tryz.func80, Tryz.ntmps80
  go_wp2_with fail
  refine (nstop _).mono ?_
  rintro x w1 ⟨rfl, h1⟩
  subst h1
  go_wp2
  go_ret
  exact ⟨rfl, rfl⟩
set_option maxRecDepth 100000 in
theorem nrint (w : World) : Calls Tryz.prog 31 #[.pointer none] w fun x w' => x = .returned (.int .i64 0) ∧ w' = w := by
  go_enter Tryz.func31, Tryz.ntmps31
  go_wp2_with fail
  refine (nruint _ _).mono ?_
  rintro x w1 ⟨rfl, h1⟩
  subst h1
  go_wp2
  go_ret
  exact ⟨rfl, rfl⟩
set_option maxRecDepth 100000 in
theorem nrfail (e p : Int) (w : World) : Calls Tryz.prog 81 #[.pointer none, .int .i64 e, .int .i64 p] w fun x w' => x = .returned (.tuple #[]) ∧ w' = w := by
  go_enter Tryz.func81, Tryz.ntmps81
  go_wp2
  go_end0
  exact ⟨rfl, rfl⟩
set_option maxRecDepth 100000 in
theorem nrat (w : World) : Calls Tryz.prog 35 #[.pointer none] w fun x w' => x = .returned (.int .i64 0) ∧ w' = w := by
  go_enter Tryz.func35, Tryz.ntmps35
  go_wp2
  go_ret
  exact ⟨rfl, rfl⟩
set_option maxRecDepth 100000 in
theorem nrleft (w : World) : Calls Tryz.prog 99 #[.pointer none] w fun x w' => x = .returned (.int .i64 0) ∧ w' = w := by
  go_enter Tryz.func99, Tryz.ntmps99
  go_wp2
  go_ret
  exact ⟨rfl, rfl⟩
set_option maxRecDepth 100000 in
theorem nrfault (w : World) : Calls Tryz.prog 95 #[.pointer none] w fun x w' => x = .returned (.tuple #[.int .i64 1, .int .i64 0]) ∧ w' = w := by
  go_enter Tryz.func95, Tryz.ntmps95
  go_wp2
  go_ret2
  exact ⟨rfl, rfl⟩
set_option maxRecDepth 100000 in
theorem nrdone (w : World) : Calls Tryz.prog 34 #[.pointer none] w fun x w' => x = .returned (.tuple #[.int .i64 1, .int .i64 0]) ∧ ∃ m, w' = w.drewN m := by
  go_enter Tryz.func34, Tryz.ntmps34
  go_wp2_with fail
  refine (nrfault _).mono ?_
  rintro x w1 ⟨rfl, h1⟩
  subst h1
  go_wp2
  go_ret2
  exact ⟨rfl, 0, rfl⟩
theorem resRHashN (tmps : Array Value) (w : World) (g : Nat) (t : TypeId) (l : List UInt8) (hl : l.length = 32) (fr : Nat × Nat) (j : Nat) (hj : j = 2) (hp : tmps.getD j undef = .pointer (some ⟨g, 0, none⟩)) (hg : w.heap[g]? = some (.cells (bs l) t fr)) :
    (results Tryz.f79 tmps).run Tryz.prog w = .ok (.agg (bs l)) w := by
  subst hj
  exact results_cell_row Tryz.results79 tmps w g t (bs l) fr _ hp hg Tryz.underlying36 rfl (by rw [bs_size, hl]; exact hsH)
theorem below_setRowN (B : Nat) (w : World) (g : Nat) (cs : Array Value) (h : B ≤ g) : Below B w (w.setRow g cs) :=
  ⟨rfl, rfl, rfl, by simp, fun k hk => setRow_other w g k cs (by omega)⟩
theorem hbzN : Tryz.prog.built 36 [] = some (bs z32) := by kernel_rfl
set_option maxRecDepth 100000 in
set_option maxHeartbeats 1000000 in
theorem nrhash (w : World) : Calls Tryz.prog 79 #[.pointer none] w fun x w' => x = .returned (.agg (bs z32)) ∧ Below w.heap.size w w' := by
  have hzs : (bs z32).size = 32 := by rw [bs_size]; rfl
  have be0 : Below w.heap.size w (w.alloc (.cells (bs z32) 36)) := (Below.refl _ _).alloc (Nat.le_refl _) _
  have g0 : (w.alloc (.cells (bs z32) 36)).heap[w.heap.size]? = some (.cells (bs z32) 36 (0, 0)) := heap_alloc_new _ _
  generalize hW : w.alloc (.cells (bs z32) 36) = W at *
  go_enter Tryz.func79, Tryz.ntmps79
  go_wp2_with (first | (refine wpList_alloc_row rfl 36 rfl (bs z32) (hzH _) ?_; rw [hW]) | fail)
  refine (nstop _).mono ?_
  rintro e w1 ⟨rfl, hw1⟩
  subst hw1
  go_wp2_with (first
    | (refine wpList_build_row rfl 36 rfl (bs z32) hbzN ?_)
    | (refine wpList_store_row rfl 36 _ _ rfl w.heap.size (bs z32) rfl rfl 36 (bs z32) g0 (by rw [hzs]; exact hsH) rfl (bs_one _) ?_)
    | fail)
  exact bodyPost_ret (resRHashN _ _ w.heap.size 36 z32 z32_len (0, 0) 2 rfl rfl (setRow_heap _ _ _ _ _ _ g0)) rfl ⟨rfl, be0.trans (below_setRowN _ _ _ _ (Nat.le_refl _))⟩
end Go.Proofs.YtgiblfhajiakgaaGreatDoor
