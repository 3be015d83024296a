import Derived.Test.YthlcmijekgjgjaaDoorDSched
import Derived.Deep.QuietTactic
import Derived.BigQuiet
import Derived.ChangeKeysEq
namespace Go.Proofs.YthlcmijekgjgjaaDoor
open Go.RowKit
set_option linter.unusedVariables false
set_option linter.unusedSimpArgs false

def keys : List UInt32 := [0x428a2f98, 0x71374491, 0xb5c0fbcf, 0xe9b5dba5, 0x3956c25b, 0x59f111f1, 0x923f82a4, 0xab1c5ed5, 0xd807aa98, 0x12835b01, 0x243185be, 0x550c7dc3, 0x72be5d74, 0x80deb1fe, 0x9bdc06a7, 0xc19bf174, 0xe49b69c1, 0xefbe4786, 0x0fc19dc6, 0x240ca1cc, 0x2de92c6f, 0x4a7484aa, 0x5cb0a9dc, 0x76f988da, 0x983e5152, 0xa831c66d, 0xb00327c8, 0xbf597fc7, 0xc6e00bf3, 0xd5a79147, 0x06ca6351, 0x14292967, 0x27b70a85, 0x2e1b2138, 0x4d2c6dfc, 0x53380d13, 0x650a7354, 0x766a0abb, 0x81c2c92e, 0x92722c85, 0xa2bfe8a1, 0xa81a664b, 0xc24b8b70, 0xc76c51a3, 0xd192e819, 0xd6990624, 0xf40e3585, 0x106aa070, 0x19a4c116, 0x1e376c08, 0x2748774c, 0x34b0bcb5, 0x391c0cb3, 0x4ed8aa4a, 0x5b9cca4f, 0x682e6ff3, 0x748f82ee, 0x78a5636f, 0x84c87814, 0x8cc70208, 0x90befffa, 0xa4506ceb, 0xbef9a3f7, 0xc67178f2]

structure S8 where
  a : UInt32
  b : UInt32
  c : UInt32
  d : UInt32
  e : UInt32
  f : UInt32
  g : UInt32
  h : UInt32
def tOne (e f g h k w : UInt32) : UInt32 := h + turnE e + (e &&& f ||| (e ^^^ 0xffffffff) &&& g) + k + w
def tTwo (a b c : UInt32) : UInt32 := turnA a + (a &&& b ||| a &&& c ||| b &&& c)
def S8.step (s : S8) (k w : UInt32) : S8 :=
  ⟨tOne s.e s.f s.g s.h k w + tTwo s.a s.b s.c, s.a, s.b, s.c, s.d + tOne s.e s.f s.g s.h k w, s.e, s.f, s.g⟩
def S8.run (s : S8) (W : List UInt32) : Nat → S8
  | 0 => s
  | n + 1 => (s.run W n).step (keys.getD n 0) (W.getD n 0)
def S8.list (s : S8) : List UInt32 := [s.a, s.b, s.c, s.d, s.e, s.f, s.g, s.h]
def S8.plus (s r : S8) : S8 := ⟨s.a + r.a, s.b + r.b, s.c + r.c, s.d + r.d, s.e + r.e, s.f + r.f, s.g + r.g, s.h + r.h⟩
def S8.mix (s : S8) (l : List UInt8) : S8 := s.plus (s.run (schTo l 64) 64)

def z8 : List UInt32 := [0, 0, 0, 0, 0, 0, 0, 0]
theorem hz58 (w : World) : (zeroValue 52).run Tryd.prog w = .ok (.agg (ws z8)) w := (zero_of_info (n := 8) (by kernel_rfl)).1 w
theorem hs58 : (Tryd.prog.info? 52).map (·.size) = some 8 := by kernel_rfl
theorem info27 : ∃ i, Tryd.prog.info? 51 = some i ∧ i.size = 1 := by
  have h : (Tryd.prog.info? 51).map (·.size) = some 1 := by kernel_rfl
  cases hq : Tryd.prog.info? 51 with
  | none => rw [hq] at h; simp at h
  | some i => exact ⟨i, rfl, by rw [hq] at h; simpa using h⟩
theorem index67 (W : List UInt32) (hW : W.length = 64) (k : Nat) (hk : k < 64) (w : World) :
    (Instr.index 58 (.agg (ws W)) (.int .i64 (k : Int))).run Tryd.prog w = .ok (.int .u32 (U (W.getD k 0))) w := by
  obtain ⟨i, hi, hs⟩ := info27
  have hp := run_part_plain (P := Tryd.prog) w (e := 51) (by simp [Program.plainKey, Tryd.underlying51]) (off := k) (ws_get W k (by omega))
  simp only [Instr.index, asIntOf, Sem.run_bind, Sem.run_pure, Result.andThen_ok, run_underlying Tryd.underlying58]
  rw [Sem.run_ite, if_pos ⟨by omega, by omega⟩]
  simp only [Sem.run_bind, sizeOf, typeInfo, hi, hs]
  simp [hi, hs, hp]

def ar8 (x0 x1 x2 x3 x4 x5 x6 x7 : UInt32) : Array Value := #[.int .u32 (U x0), .int .u32 (U x1), .int .u32 (U x2), .int .u32 (U x3), .int .u32 (U x4), .int .u32 (U x5), .int .u32 (U x6), .int .u32 (U x7)]
theorem lit8 (x0 x1 x2 x3 x4 x5 x6 x7 : UInt32) : (#[.int .u32 (U x0), .int .u32 (U x1), .int .u32 (U x2), .int .u32 (U x3), .int .u32 (U x4), .int .u32 (U x5), .int .u32 (U x6), .int .u32 (U x7)] : Array Value) = ws [x0, x1, x2, x3, x4, x5, x6, x7] := rfl
theorem one8 (x0 x1 x2 x3 x4 x5 x6 x7 : UInt32) : (#[.int .u32 (U x0), .int .u32 (U x1), .int .u32 (U x2), .int .u32 (U x3), .int .u32 (U x4), .int .u32 (U x5), .int .u32 (U x6), .int .u32 (U x7)] : Array Value).all (·.oneCell') = true := by rw [lit8]; exact ws_one _
theorem hz8s : (ws z8).size = 8 := rfl

/-- The table lies where it lies. -/
def KeysAt (w : World) : Prop := ∀ j, j < 64 → w.cell? ⟨3, j, none⟩ = some (.int .u32 (U (keys.getD j 0)))

attribute [local go_sem] bits_xor bits_or bits_and U_add U_addw xor_max

theorem res35 (tmps : Array Value) (w : World) (g : Nat) (t : TypeId) (l : List UInt32) (hl : l.length = 8) (fr : Nat × Nat) (hp : tmps.getD 4 undef = .pointer (some ⟨g, 0, none⟩)) (hg : w.heap[g]? = some (.cells (ws l) t fr)) :
    (results Tryd.f15 tmps).run Tryd.prog w = .ok (.agg (ws l)) w :=
  results_cell_row Tryd.results15 tmps w g t (ws l) fr _ hp hg Tryd.underlying52 rfl (by rw [ws_size, hl]; exact hs58)

set_option maxRecDepth 100000 in
set_option maxHeartbeats 4000000 in
theorem mixed_any (s : S8) (b off cap : Nat) (l : List UInt8) (w : World) (hl : l.length = 64) (hc : ∀ j, j < 64 → w.cell? ⟨b, off + j, none⟩ = some (.int .u8 (at8 l j))) (hK : KeysAt w) :
    Calls Tryd.prog 15 #[.agg (ws s.list), .slice (some ⟨b, off, none⟩) 64 cap] w fun e w' => e = .returned (.agg (ws (s.mix l).list)) ∧ Below w.heap.size w w' := by
  have hbb : b < w.heap.size := block_lt_of_cell (hc 0 (by omega))
  have x0 : (ws s.list)[0]? = some (.int .u32 (U s.a)) := rfl
  have x1 : (ws s.list)[1]? = some (.int .u32 (U s.b)) := rfl
  have x2 : (ws s.list)[2]? = some (.int .u32 (U s.c)) := rfl
  have x3 : (ws s.list)[3]? = some (.int .u32 (U s.d)) := rfl
  have x4 : (ws s.list)[4]? = some (.int .u32 (U s.e)) := rfl
  have x5 : (ws s.list)[5]? = some (.int .u32 (U s.f)) := rfl
  have x6 : (ws s.list)[6]? = some (.int .u32 (U s.g)) := rfl
  have x7 : (ws s.list)[7]? = some (.int .u32 (U s.h)) := rfl
  go_enter Tryd.func15, Tryd.ntmps15
  go_wp2_with (first | (refine wpList_alloc_row rfl 52 rfl (ws z8) (hz58 _) ?_))
  go_quiet (fail)
  clear x0 x1 x2 x3 x4 x5 x6 x7
  have bel0 : Below w.heap.size w (((w.alloc (Obj.cells (ws s.list) 52)).alloc (Obj.cells (ws z8) 52)).drewN nq) :=
    below_drewN (((Below.refl _ _).alloc (Nat.le_refl _) _).alloc (by simp) _) nq
  have g0 : (((w.alloc (Obj.cells (ws s.list) 52)).alloc (Obj.cells (ws z8) 52)).drewN nq).heap[w.heap.size]? = some (.cells (ws s.list) 52 (0, 0)) := heap_alloc2_old _ _ _
  have g1 : (((w.alloc (Obj.cells (ws s.list) 52)).alloc (Obj.cells (ws z8) 52)).drewN nq).heap[w.heap.size + 1]? = some (.cells (ws z8) 52 (0, 0)) := heap_alloc2_new _ _ _
  go_wp2_with fail
  generalize (((w.alloc (Obj.cells (ws s.list) 52)).alloc (Obj.cells (ws z8) 52)).drewN nq) = W0 at *
  refine (sched_any b off cap l W0 hl (fun j hj => (bel0.cell (p := ⟨b, off + j, none⟩) hbb).trans (hc j hj))).mono ?_
  rintro e w1 ⟨rfl, hb1⟩
  have z1 : w.heap.size + 1 < W0.heap.size := (Array.getElem?_eq_some_iff.1 g1).1
  have z2 : W0.heap.size ≤ w1.heap.size := hb1.size
  have h0 : w1.heap[w.heap.size]? = some (.cells (ws s.list) 52 (0, 0)) := by rw [hb1.block _ (by omega)]; exact g0
  have h1 : w1.heap[w.heap.size + 1]? = some (.cells (ws z8) 52 (0, 0)) := by rw [hb1.block _ (by omega)]; exact g1
  have bel1 : Below w.heap.size w w1 := bel0.trans (hb1.mono (by omega))
  have hK1 : KeysAt w1 := fun j hj => (bel1.cell (p := ⟨3, j, none⟩) (block_lt_of_cell (hK j hj))).trans (hK j hj)
  clear g0 g1 bel0 hb1 hK
  have LW := schTo_len l 64
  have EM : Hid (s.mix l = s.plus (s.run (schTo l 64) 64)) := rfl
  generalize schTo l 64 = W at *
  go_wp2
  go_loopw [5, 6, 7, 8, 9, 10, 11, 12, 13, 14, 15, 16, 35] (fun a b c d e f g h _ _ _ _ i wr => ∃ k : Nat, k ≤ 64 ∧ i = .int .i64 k ∧ a = .int .u32 (U (s.run W k).a) ∧ b = .int .u32 (U (s.run W k).b) ∧ c = .int .u32 (U (s.run W k).c) ∧ d = .int .u32 (U (s.run W k).d) ∧ e = .int .u32 (U (s.run W k).e) ∧ f = .int .u32 (U (s.run W k).f) ∧ g = .int .u32 (U (s.run W k).g) ∧ h = .int .u32 (U (s.run W k).h) ∧ Below w1.heap.size w1 wr) (fun _ _ _ _ _ _ _ _ _ _ _ _ i _ => 64 - (intOf i).toNat)
  case atStart => exact ⟨0, by omega, rfl, rfl, rfl, rfl, rfl, rfl, rfl, rfl, rfl, Below.refl _ _⟩
  case round =>
    obtain ⟨k, hk, rfl, rfl, rfl, rfl, rfl, rfl, rfl, rfl, rfl, hsame⟩ := hrel
    by_cases hlt : k < 64
    · have ix := fun wx => index67 W LW k hlt wx
      have kc := (hsame.cell (p := ⟨3, k, none⟩) (block_lt_of_cell (hK1 k hlt))).trans (hK1 k hlt)
      have ER : Hid (s.run W (k + 1) = (s.run W k).step (keys.getD k 0) (W.getD k 0)) := rfl
      generalize s.run W k = r at *
      generalize keys.getD k 0 = kk at *
      generalize W.getD k 0 = ww at *
      have hlt2 : (k : Int) < 64 := by omega
      have sg : IntKind.u32.signed = false := rfl
      go_wp2
      go_quiet ((go_at_call 20; exact Calls.quiet_of_same (turnE_any _ _)))
      go_wp2_with fail
      refine (turnA_any _ _).mono ?_
      rintro e w' ⟨rfl, rfl⟩
      go_wp2
      go_roundw
      case rel => exact ⟨k + 1, by omega, by go_num, by rw [ER.out]; rfl, by rw [ER.out]; rfl, by rw [ER.out]; rfl, by rw [ER.out]; rfl, by rw [ER.out]; rfl, by rw [ER.out]; rfl, by rw [ER.out]; rfl, by rw [ER.out]; rfl, below_drewN hsame _⟩
      case measure => simp [intOf]; omega
    · have hk2 : k = 64 := by omega
      subst hk2
      have cel : ∀ j v, (ws s.list)[j]? = some v → wr.cell? ⟨w.heap.size, j, none⟩ = some v := fun j v hv => (hsame.cell (p := ⟨w.heap.size, j, none⟩) (by show w.heap.size < _; omega)).trans ((cell_of_row w1 w.heap.size j _ _ _ h0).trans hv)
      have y0 := cel 0 (.int .u32 (U s.a)) rfl
      have y1 := cel 1 (.int .u32 (U s.b)) rfl
      have y2 := cel 2 (.int .u32 (U s.c)) rfl
      have y3 := cel 3 (.int .u32 (U s.d)) rfl
      have y4 := cel 4 (.int .u32 (U s.e)) rfl
      have y5 := cel 5 (.int .u32 (U s.f)) rfl
      have y6 := cel 6 (.int .u32 (U s.g)) rfl
      have y7 := cel 7 (.int .u32 (U s.h)) rfl
      clear cel
      generalize s.run W 64 = r at *
      have h1' : wr.heap[w.heap.size + 1]? = some (.cells (ws z8) 52 (0, 0)) := by rw [hsame.block _ (by omega)]; exact h1
      go_wp2_with (first | (refine wpList_store_row rfl 52 (.tmp 4) (.tmp 117) rfl (w.heap.size + 1) #[.int .u32 (U (s.a + r.a)), .int .u32 (U (s.b + r.b)), .int .u32 (U (s.c + r.c)), .int .u32 (U (s.d + r.d)), .int .u32 (U (s.e + r.e)), .int .u32 (U (s.f + r.f)), .int .u32 (U (s.g + r.g)), .int .u32 (U (s.h + r.h))] rfl rfl 52 (ws z8) h1' hs58 hz8s (one8 _ _ _ _ _ _ _ _) ?_; rw [lit8]))
      have EM2 : Hid ((s.mix l).list = [s.a + r.a, s.b + r.b, s.c + r.c, s.d + r.d, s.e + r.e, s.f + r.f, s.g + r.g, s.h + r.h]) := by rw [EM.out]; rfl
      refine bodyPost_ret (res35 _ _ (w.heap.size + 1) 52 [s.a + r.a, s.b + r.b, s.c + r.c, s.d + r.d, s.e + r.e, s.f + r.f, s.g + r.g, s.h + r.h] rfl (0, 0) rfl (setRow_heap _ _ _ _ _ _ h1')) rfl ⟨by rw [EM2.out], (bel1.trans (hsame.mono (by omega))).trans (below_setRow _ _ _ _ (by omega))⟩
end Go.Proofs.YthlcmijekgjgjaaDoor
