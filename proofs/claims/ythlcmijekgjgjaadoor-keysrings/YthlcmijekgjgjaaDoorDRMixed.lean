import Derived.Test.YthlcmijekgjgjaaDoorDMix
import Derived.Test.YthlcmijekgjgjaaDoorDRWords
import Derived.Deep.RegionWith
namespace Go.Proofs.YthlcmijekgjgjaaDoor
open Go.RowKit
set_option linter.unusedVariables false
set_option linter.unusedSimpArgs false

/-- The table of the document's answer. -/
def RoundsAt (w : World) : Prop := ∀ j, j < 64 → w.cell? ⟨2, j, none⟩ = some (.int .u32 (U (keys.getD j 0)))

attribute [local go_sem] bits_xor bits_or bits_and U_add U_addw xor_max

theorem res32 (tmps : Array Value) (w : World) (g : Nat) (t : TypeId) (l : List UInt32) (hl : l.length = 8) (fr : Nat × Nat) (hp : tmps.getD 4 undef = .pointer (some ⟨g, 0, none⟩)) (hg : w.heap[g]? = some (.cells (ws l) t fr)) :
    (results Tryd.f14 tmps).run Tryd.prog w = .ok (.agg (ws l)) w :=
  results_cell_row Tryd.results14 tmps w g t (ws l) fr _ hp hg Tryd.underlying52 rfl (by rw [ws_size, hl]; exact hs58)
theorem tOne_eq (e f g h k w : UInt32) : tOne e f g h k w = h + (rotr e 6 ^^^ rotr e 11 ^^^ rotr e 25) + (e &&& f ||| (e ^^^ 0xffffffff) &&& g) + k + w := rfl
theorem tTwo_eq (a b c : UInt32) : tTwo a b c = (rotr a 2 ^^^ rotr a 13 ^^^ rotr a 22) + (a &&& b ||| a &&& c ||| b &&& c) := rfl

set_option maxRecDepth 100000 in
set_option maxHeartbeats 4000000 in
theorem rmixed_any (s : S8) (b off cap : Nat) (l : List UInt8) (w : World) (hl : l.length = 64) (hc : ∀ j, j < 64 → w.cell? ⟨b, off + j, none⟩ = some (.int .u8 (at8 l j))) (hK : RoundsAt w) :
    Calls Tryd.prog 14 #[.agg (ws s.list), .slice (some ⟨b, off, none⟩) 64 cap] w fun e w' => e = .returned (.agg (ws (s.mix l).list)) ∧ Below w.heap.size w w' := by
  have hbb : b < w.heap.size := block_lt_of_cell (hc 0 (by omega))
  go_enter Tryd.func14, Tryd.ntmps14
  go_wp2_with (first | (refine wpList_alloc_row rfl 52 rfl (ws z8) (hz58 _) ?_))
  have bel0 : Below w.heap.size w ((w.alloc (Obj.cells (ws s.list) 52)).alloc (Obj.cells (ws z8) 52)) :=
    ((Below.refl _ _).alloc (Nat.le_refl _) _).alloc (by simp) _
  have g0 : ((w.alloc (Obj.cells (ws s.list) 52)).alloc (Obj.cells (ws z8) 52)).heap[w.heap.size]? = some (.cells (ws s.list) 52 (0, 0)) := heap_alloc2_old _ _ _
  have g1 : ((w.alloc (Obj.cells (ws s.list) 52)).alloc (Obj.cells (ws z8) 52)).heap[w.heap.size + 1]? = some (.cells (ws z8) 52 (0, 0)) := heap_alloc2_new _ _ _
  generalize ((w.alloc (Obj.cells (ws s.list) 52)).alloc (Obj.cells (ws z8) 52)) = W0 at *
  refine (words_any b off cap l W0 hl (fun j hj => (bel0.cell (p := ⟨b, off + j, none⟩) hbb).trans (hc j hj))).mono ?_
  rintro e w1 ⟨rfl, hb1⟩
  have z1 : w.heap.size + 1 < W0.heap.size := (Array.getElem?_eq_some_iff.1 g1).1
  have z2 : W0.heap.size ≤ w1.heap.size := hb1.size
  have LW := schTo_len l 64
  have EM : Hid (s.mix l = s.plus (s.run (schTo l 64) 64)) := rfl
  generalize schTo l 64 = W at *
  have zz : (ws (pad64 [])).size = (ws W).size := by rw [ws_size, ws_size, LW]; rfl
  have zs : (Tryd.prog.info? 58).map (·.size) = some (ws W).size := by rw [ws_size, LW]; exact hs67
  go_wp2_with (first | (refine wpList_alloc_row rfl 58 rfl (ws (pad64 [])) (hz67 _) ?_) | (refine wpList_store_row rfl 58 _ _ rfl w1.heap.size (ws W) rfl rfl 58 (ws (pad64 [])) (heap_alloc_new _ _) zs zz (ws_one _) ?_))
  have bel1 : Below w1.heap.size w1 ((w1.alloc (Obj.cells (ws (pad64 [])) 58)).setRow w1.heap.size (ws W)) := ((Below.refl _ _).alloc (Nat.le_refl _) _).trans (below_setRow _ _ _ _ (Nat.le_refl _))
  have g2 : ((w1.alloc (Obj.cells (ws (pad64 [])) 58)).setRow w1.heap.size (ws W)).heap[w1.heap.size]? = some (.cells (ws W) 58 (0, 0)) := setRow_heap _ _ _ _ _ _ (heap_alloc_new _ _)
  generalize ((w1.alloc (Obj.cells (ws (pad64 [])) 58)).setRow w1.heap.size (ws W)) = w2 at *
  have z3 : w1.heap.size < w2.heap.size := (Array.getElem?_eq_some_iff.1 g2).1
  have h0 : w2.heap[w.heap.size]? = some (.cells (ws s.list) 52 (0, 0)) := by rw [bel1.block _ (by omega), hb1.block _ (by omega)]; exact g0
  have h1 : w2.heap[w.heap.size + 1]? = some (.cells (ws z8) 52 (0, 0)) := by rw [bel1.block _ (by omega), hb1.block _ (by omega)]; exact g1
  have bel2 : Below w.heap.size w w2 := (bel0.trans (hb1.mono (by omega))).trans (bel1.mono (by omega))
  have hK1 : RoundsAt w2 := fun j hj => (bel2.cell (p := ⟨2, j, none⟩) (block_lt_of_cell (hK j hj))).trans (hK j hj)
  have hW2 : ∀ k, k < 64 → w2.cell? ⟨w1.heap.size, k, none⟩ = some (.int .u32 (U (W.getD k 0))) := fun k hk => (cell_of_row w2 w1.heap.size k _ _ _ g2).trans (ws_get W k (by omega))
  clear g0 g1 g2 bel0 bel1 hb1 hK zz zs
  have cel : ∀ j v, (ws s.list)[j]? = some v → w2.cell? ⟨w.heap.size, j, none⟩ = some v := fun j v hv => (cell_of_row w2 w.heap.size j _ _ _ h0).trans hv
  have y0 := cel 0 (.int .u32 (U s.a)) rfl
  have y1 := cel 1 (.int .u32 (U s.b)) rfl
  have y2 := cel 2 (.int .u32 (U s.c)) rfl
  have y3 := cel 3 (.int .u32 (U s.d)) rfl
  have y4 := cel 4 (.int .u32 (U s.e)) rfl
  have y5 := cel 5 (.int .u32 (U s.f)) rfl
  have y6 := cel 6 (.int .u32 (U s.g)) rfl
  have y7 := cel 7 (.int .u32 (U s.h)) rfl
  clear cel
  go_quiet (fail)
  go_wp2
  go_loopw [6, 7, 8, 9, 10, 11, 12, 13, 14, 15, 16] (fun a b c d e f g h i _ _ wr => ∃ k : Nat, k ≤ 64 ∧ i = .int .i64 k ∧ a = .int .u32 (U (s.run W k).a) ∧ b = .int .u32 (U (s.run W k).b) ∧ c = .int .u32 (U (s.run W k).c) ∧ d = .int .u32 (U (s.run W k).d) ∧ e = .int .u32 (U (s.run W k).e) ∧ f = .int .u32 (U (s.run W k).f) ∧ g = .int .u32 (U (s.run W k).g) ∧ h = .int .u32 (U (s.run W k).h) ∧ Below w2.heap.size w2 wr) (fun _ _ _ _ _ _ _ _ i _ _ _ => 64 - (intOf i).toNat)
  case atStart => exact ⟨0, by omega, rfl, rfl, rfl, rfl, rfl, rfl, rfl, rfl, rfl, below_drewN (Below.refl _ _) _⟩
  case round =>
    obtain ⟨k, hk, rfl, rfl, rfl, rfl, rfl, rfl, rfl, rfl, rfl, hsame⟩ := hrel
    by_cases hlt : k < 64
    · have wc := (hsame.cell (p := ⟨w1.heap.size, k, none⟩) z3).trans (hW2 k hlt)
      have kc := (hsame.cell (p := ⟨2, k, none⟩) (block_lt_of_cell (hK1 k hlt))).trans (hK1 k hlt)
      have ER : Hid (s.run W (k + 1) = (s.run W k).step (keys.getD k 0) (W.getD k 0)) := rfl
      clear hW2 hK1 y0 y1 y2 y3 y4 y5 y6 y7
      generalize s.run W k = r at *
      generalize keys.getD k 0 = kk at *
      generalize W.getD k 0 = ww at *
      have hlt2 : (k : Int) < 64 := by omega
      have sg : IntKind.u32.signed = false := rfl
      go_wp2
      go_quiet (first
        | (go_at_call_of 18 (Value.int .i64 6); exact Calls.quiet_of (tur6 _ _))
        | (go_at_call_of 18 (Value.int .i64 11); exact Calls.quiet_of (tur11 _ _))
        | (go_at_call_of 18 (Value.int .i64 25); exact Calls.quiet_of (tur25 _ _)))
      go_wp2_with fail
      refine (tur2 _ _).mono ?_
      rintro e w' ⟨rfl, n2, rfl⟩
      go_wp2_with fail
      refine (tur13 _ _).mono ?_
      rintro e w' ⟨rfl, n13, rfl⟩
      go_wp2_with fail
      refine (tur22 _ _).mono ?_
      rintro e w' ⟨rfl, n22, rfl⟩
      go_wp2
      go_roundw
      case rel => exact ⟨k + 1, by omega, by go_num, by rw [ER.out]; rfl, by rw [ER.out]; rfl, by rw [ER.out]; rfl, by rw [ER.out]; rfl, by rw [ER.out]; rfl, by rw [ER.out]; rfl, by rw [ER.out]; rfl, by rw [ER.out]; rfl, below_drewN hsame _⟩
      case measure => simp [intOf]; omega
    · have hk2 : k = 64 := by omega
      subst hk2
      clear hW2 hK1
      have q0 := (hsame.cell (p := ⟨w.heap.size, 0, none⟩) (show w.heap.size < _ by omega)).trans y0
      have q1 := (hsame.cell (p := ⟨w.heap.size, 1, none⟩) (show w.heap.size < _ by omega)).trans y1
      have q2 := (hsame.cell (p := ⟨w.heap.size, 2, none⟩) (show w.heap.size < _ by omega)).trans y2
      have q3 := (hsame.cell (p := ⟨w.heap.size, 3, none⟩) (show w.heap.size < _ by omega)).trans y3
      have q4 := (hsame.cell (p := ⟨w.heap.size, 4, none⟩) (show w.heap.size < _ by omega)).trans y4
      have q5 := (hsame.cell (p := ⟨w.heap.size, 5, none⟩) (show w.heap.size < _ by omega)).trans y5
      have q6 := (hsame.cell (p := ⟨w.heap.size, 6, none⟩) (show w.heap.size < _ by omega)).trans y6
      have q7 := (hsame.cell (p := ⟨w.heap.size, 7, none⟩) (show w.heap.size < _ by omega)).trans y7
      clear y0 y1 y2 y3 y4 y5 y6 y7
      have h1' : wr.heap[w.heap.size + 1]? = some (.cells (ws z8) 52 (0, 0)) := by rw [hsame.block _ (by omega)]; exact h1
      generalize s.run W 64 = r at *
      go_wp2_with (first | (refine wpList_store_row rfl 52 (.tmp 4) (.tmp 130) rfl (w.heap.size + 1) #[.int .u32 (U (s.a + r.a)), .int .u32 (U (s.b + r.b)), .int .u32 (U (s.c + r.c)), .int .u32 (U (s.d + r.d)), .int .u32 (U (s.e + r.e)), .int .u32 (U (s.f + r.f)), .int .u32 (U (s.g + r.g)), .int .u32 (U (s.h + r.h))] rfl rfl 52 (ws z8) h1' hs58 hz8s (one8 _ _ _ _ _ _ _ _) ?_; rw [lit8]))
      have EM2 : Hid ((s.mix l).list = [s.a + r.a, s.b + r.b, s.c + r.c, s.d + r.d, s.e + r.e, s.f + r.f, s.g + r.g, s.h + r.h]) := by rw [EM.out]; rfl
      refine bodyPost_ret (res32 _ _ (w.heap.size + 1) 52 [s.a + r.a, s.b + r.b, s.c + r.c, s.d + r.d, s.e + r.e, s.f + r.f, s.g + r.g, s.h + r.h] rfl (0, 0) rfl (setRow_heap _ _ _ _ _ _ h1')) rfl ⟨by rw [EM2.out], (bel2.trans (hsame.mono (by omega))).trans (below_setRow _ _ _ _ (by omega))⟩
end Go.Proofs.YthlcmijekgjgjaaDoor
