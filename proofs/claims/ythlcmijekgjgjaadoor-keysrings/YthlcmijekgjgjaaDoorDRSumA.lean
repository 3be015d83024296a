import Derived.Test.YthlcmijekgjgjaaDoorDOwn
import Derived.Test.YthlcmijekgjgjaaDoorDRMixed
namespace Go.Proofs.YthlcmijekgjgjaaDoor
open Go.RowKit
set_option linter.unusedVariables false
set_option linter.unusedSimpArgs false

/-- The bytes with the first k of what stands behind them. -/
def pAt (l : List UInt8) (k : Nat) : List UInt8 := l ++ (padL l.length).take k
theorem pAt_len (l : List UInt8) (k : Nat) (h : k ≤ room l.length + 8) : (pAt l k).length = l.length + k := by
  simp [pAt, padL_len]; omega
theorem pAt_zero (l : List UInt8) : pAt l 0 = l := by simp [pAt]
theorem pAt_all (l : List UInt8) : pAt l (room l.length + 8) = l ++ padL l.length := by
  unfold pAt; rw [List.take_of_length_le (by rw [padL_len]; omega)]
theorem pAt_succ (l : List UInt8) (k : Nat) (b : UInt8) (h : k < room l.length + 8) (hb : (padL l.length).getD k 0 = b) : pAt l k ++ [b] = pAt l (k + 1) := by
  have hk : k < (padL l.length).length := by rw [padL_len]; omega
  unfold pAt
  rw [List.take_succ_eq_append_getElem hk, List.append_assoc]
  congr 2
  rw [← hb]
  simp [List.getElem?_eq_getElem hk]
theorem padL_get (n k : Nat) (h : k < room n + 8) : (padL n).getD k 0 = if k = 0 then 128 else if room n ≤ k then lenB n (k - room n) else 0 := by
  unfold padL padTo
  simp only [List.getD_eq_getElem?_getD, List.getElem?_map, List.getElem?_range h, Option.map_some, Option.getD_some]
  by_cases h1 : room n ≤ k
  · simp [h1, h]
  · simp [h1]
theorem room_lo (n : Nat) : 1 ≤ room n := by unfold room; omega
theorem room_hi (n : Nat) : room n ≤ 64 := by unfold room; omega
theorem room_mod (n k : Nat) (h1 : 1 ≤ k) (h2 : k ≤ room n) : (n + k) % 64 = 56 ↔ k = room n := by unfold room at *; omega
theorem room_whole (n : Nat) : (n + (room n + 8)) % 64 = 0 := by unfold room; omega

theorem app_step {w wr w0 w1 : World} {v : Value} {L : List UInt8} {O : Obj} (hown : OwnB wr (w.heap.size + 1) v L) (h0 : wr.heap[w.heap.size]? = some O) (hbel : Below w.heap.size w wr)
    (hb0 : Below wr.heap.size wr w0) (hg : w0.grownBy w1 v.ownBlock) : w1.heap[w.heap.size]? = some O ∧ Below w.heap.size w w1 := by
  have hlt : w.heap.size < wr.heap.size := (Array.getElem?_eq_some_iff.1 h0).1
  have hne : some w.heap.size ≠ v.ownBlock := fun e => by
    have := (World.ownsRow.lt hown w.heap.size e.symm).1
    omega
  have hs := hb0.size
  refine ⟨by rw [hg.block _ (by omega) hne, hb0.block _ hlt]; exact h0, ?_⟩
  exact (hbel.trans (hb0.mono (by omega))).grown hg (by omega) (fun k hk => by have := (World.ownsRow.lt hown k hk).1; omega)

/-- The state's eight cells, as they lie. -/
theorem v_cells {w : World} {g : Nat} {s : S8} (hg : w.heap[g]? = some (.cells (ws s.list) 52 (0, 0))) :
    (w.cell? ⟨g, 0, none⟩ = some (.int .u32 (U s.a)) ∧ w.cell? ⟨g, 1, none⟩ = some (.int .u32 (U s.b)) ∧ w.cell? ⟨g, 2, none⟩ = some (.int .u32 (U s.c)) ∧ w.cell? ⟨g, 3, none⟩ = some (.int .u32 (U s.d)) ∧
    w.cell? ⟨g, 4, none⟩ = some (.int .u32 (U s.e)) ∧ w.cell? ⟨g, 5, none⟩ = some (.int .u32 (U s.f)) ∧ w.cell? ⟨g, 6, none⟩ = some (.int .u32 (U s.g)) ∧ w.cell? ⟨g, 7, none⟩ = some (.int .u32 (U s.h))) ∧
    (∀ j, w.frozen? ⟨g, j, none⟩ = false) := by
  refine ⟨⟨?_, ?_, ?_, ?_, ?_, ?_, ?_, ?_⟩, fun j => frozen_of_row w g j _ _ hg⟩
  all_goals exact (cell_of_row w g _ _ _ _ hg).trans rfl
theorem v_stores {w : World} {g : Nat} {s r : S8} (hg : w.heap[g]? = some (.cells (ws s.list) 52 (0, 0))) :
    ((((((((w.setCell ⟨g, 0, none⟩ (.int .u32 (U r.a))).setCell ⟨g, 1, none⟩ (.int .u32 (U r.b))).setCell ⟨g, 2, none⟩ (.int .u32 (U r.c))).setCell ⟨g, 3, none⟩ (.int .u32 (U r.d))).setCell ⟨g, 4, none⟩ (.int .u32 (U r.e))).setCell ⟨g, 5, none⟩ (.int .u32 (U r.f))).setCell ⟨g, 6, none⟩ (.int .u32 (U r.g))).setCell ⟨g, 7, none⟩ (.int .u32 (U r.h))).heap[g]? = some (.cells (ws r.list) 52 (0, 0)) := by
  rw [heap_setCell_same _ g 7 _ 52 _ (heap_setCell_same _ g 6 _ 52 _ (heap_setCell_same _ g 5 _ 52 _ (heap_setCell_same _ g 4 _ 52 _ (heap_setCell_same _ g 3 _ 52 _ (heap_setCell_same _ g 2 _ 52 _ (heap_setCell_same _ g 1 _ 52 _ (heap_setCell_same _ g 0 _ 52 _ hg)))))))]
  simp [ws, S8.list]
theorem rmixed_lit (s : S8) (b off cap : Nat) (l : List UInt8) (w : World) (hl : l.length = 64) (hc : ∀ j, j < 64 → w.cell? ⟨b, off + j, none⟩ = some (.int .u8 (at8 l j))) (hK : RoundsAt w) :
    Calls Tryd.prog 14 #[.agg #[.int .u32 (U s.a), .int .u32 (U s.b), .int .u32 (U s.c), .int .u32 (U s.d), .int .u32 (U s.e), .int .u32 (U s.f), .int .u32 (U s.g), .int .u32 (U s.h)], .slice (some ⟨b, off, none⟩) 64 cap] w fun e w' =>
      ∃ r : S8, r = s.mix l ∧ e = .returned (.agg #[.int .u32 (U r.a), .int .u32 (U r.b), .int .u32 (U r.c), .int .u32 (U r.d), .int .u32 (U r.e), .int .u32 (U r.f), .int .u32 (U r.g), .int .u32 (U r.h)]) ∧ Below w.heap.size w w' := by
  rw [lit8]
  refine (rmixed_any s b off cap l w hl hc hK).mono ?_
  rintro e w' ⟨rfl, hb⟩
  exact ⟨s.mix l, rfl, rfl, hb⟩
/-- The table of the document's answer. -/
def RootsAt (w : World) : Prop := ∀ j, j < 8 → w.cell? ⟨0, j, none⟩ = some (.int .u32 (U (first.list.getD j 0)))
theorem roots_range {w : World} (h : RootsAt w) : w.rangeAt 0 0 (ws first.list).toList := fun j v hj => by
  have hj8 : j < 8 := by have := (List.getElem?_eq_some_iff.1 hj).1; simpa [ws, S8.list] using this
  rw [Nat.zero_add, h j hj8]
  have := ws_get first.list j (by simpa [S8.list] using hj8)
  rw [← Array.getElem?_toList] at this
  rw [← this]
  exact hj
theorem rootsAt_below {w w' : World} {B : Nat} (h : RootsAt w) (hB : 4 ≤ B) (hb : Below B w w') : RootsAt w' := fun j hj => (hb.cell (p := ⟨0, j, none⟩) (by show 0 < B; omega)).trans (h j hj)
theorem roundsAt_below {w w' : World} {B : Nat} (h : RoundsAt w) (hB : 4 ≤ B) (hb : Below B w w') : RoundsAt w' := fun j hj => (hb.cell (p := ⟨2, j, none⟩) (by show 2 < B; omega)).trans (h j hj)
theorem res14 (tmps : Array Value) (w : World) (g : Nat) (t : TypeId) (l : List UInt8) (hl : l.length = 32) (fr : Nat × Nat) (hp : tmps.getD 2 undef = .pointer (some ⟨g, 0, none⟩)) (hg : w.heap[g]? = some (.cells (bs l) t fr)) :
    (results Tryd.f10 tmps).run Tryd.prog w = .ok (.agg (bs l)) w :=
  results_cell_row Tryd.results10 tmps w g t (bs l) fr _ hp hg Tryd.underlying43 rfl (by rw [bs_size, hl]; exact hs24)
theorem lenB_int (n i : Nat) (hn : n ≤ 140737488355328) (hi : i < 8) : ((n : Int) * 8 / 2 ^ (56 - 8 * i)) % 256 = ((lenB n i).toNat : Int) := by
  unfold lenB
  rw [UInt8.toNat_ofNat', Int.natCast_emod, Int.natCast_ediv]
  simp
theorem slice64 (g3 N k cp3 : Nat) (h : k < N) (hcp : 64 * N ≤ cp3) (w : World) :
    (Instr.sliceAt 45 (.slice (some ⟨g3, 0, none⟩) (64 * N) cp3) (some (.int .i64 (64 * (k : Int)))) (some (.int .i64 (64 * (k : Int) + 64))) none).run Tryd.prog w = .ok (.slice (some ⟨g3, 64 * k, none⟩) 64 (cp3 - 64 * k)) w := by
  obtain ⟨i, hi, _, hs, _⟩ := info5'
  have hu : Tryd.prog.underlying 45 = some (.slice (Tryd.prog.elem 45)) := by kernel_rfl
  have he : Tryd.prog.elem 45 = 5 := by kernel_rfl
  rw [run_sliceAt_slice w _ _ _ _ _ hu, run_slice_lh w _ _ _ _ hu .i64 .i64 _ _ (by omega) (by omega) (by omega), he]
  have e1 : (64 * (k : Int)).toNat = 64 * k := by omega
  have e2 : (64 * (k : Int) + 64).toNat = 64 * k + 64 := by omega
  rw [e1, e2]
  have hne : ¬ (cp3 = 64 * k) := by omega
  simp [sizeOf, typeInfo, hi, hs, sliced, hne, Addr.add]
  omega
theorem v_rel {b6 N k : Nat} {F : List UInt8} {W3 wr wz : World} {sk r : S8} (hbut : But b6 W3 wr) (hb : Below wr.heap.size wr wz) (h6 : wr.heap[b6]? = some (.cells (ws sk.list) 52 (0, 0))) (hr : r = stN F (k + 1)) (hk : k < N) (i : Int) (hi : i = 64 * (k : Int) + 64) :
    ∃ k' : Nat, k' ≤ N ∧ Value.int .i64 i = .int .i64 (64 * (k' : Int)) ∧ ((((((((wz.setCell ⟨b6, 0, none⟩ (.int .u32 (U r.a))).setCell ⟨b6, 1, none⟩ (.int .u32 (U r.b))).setCell ⟨b6, 2, none⟩ (.int .u32 (U r.c))).setCell ⟨b6, 3, none⟩ (.int .u32 (U r.d))).setCell ⟨b6, 4, none⟩ (.int .u32 (U r.e))).setCell ⟨b6, 5, none⟩ (.int .u32 (U r.f))).setCell ⟨b6, 6, none⟩ (.int .u32 (U r.g))).setCell ⟨b6, 7, none⟩ (.int .u32 (U r.h))).heap[b6]? = some (.cells (ws (stN F k').list) 52 (0, 0)) ∧
      But b6 W3 ((((((((wz.setCell ⟨b6, 0, none⟩ (.int .u32 (U r.a))).setCell ⟨b6, 1, none⟩ (.int .u32 (U r.b))).setCell ⟨b6, 2, none⟩ (.int .u32 (U r.c))).setCell ⟨b6, 3, none⟩ (.int .u32 (U r.d))).setCell ⟨b6, 4, none⟩ (.int .u32 (U r.e))).setCell ⟨b6, 5, none⟩ (.int .u32 (U r.f))).setCell ⟨b6, 6, none⟩ (.int .u32 (U r.g))).setCell ⟨b6, 7, none⟩ (.int .u32 (U r.h))) := by
  have hz : wz.heap[b6]? = some (.cells (ws sk.list) 52 (0, 0)) := by rw [hb.block _ (Array.getElem?_eq_some_iff.1 h6).1]; exact h6
  refine ⟨k + 1, by omega, by rw [hi]; congr 1, ?_, ((((((((hbut.trans (But.of_below hb)).setCell 0 _).setCell 1 _).setCell 2 _).setCell 3 _).setCell 4 _).setCell 5 _).setCell 6 _).setCell 7 _⟩
  rw [v_stores hz, hr]
theorem ob_at (S : S8) (k : Nat) (hk : k < 32) : U (S.list.getD (k / 4) 0) / 2 ^ (24 - 8 * (k % 4)) % 256 = ((ob S k).toNat : Int) := by
  unfold ob U
  rw [UInt8.toNat_ofNat', Int.natCast_emod, Int.natCast_ediv]
  simp
theorem o_rel {b8 k : Nat} {S : S8} {W5 wr : World} (hk : k < 32) (h8 : wr.heap[b8]? = some (.cells (bs (outTo S k)) 43 (0, 0))) (hbut : But b8 W5 wr) (v : Int) (hv : v = ((ob S k).toNat : Int)) (i : Int) (hi : i = (k : Int) + 1) :
    ∃ k' : Nat, k' ≤ 32 ∧ Value.int .i64 i = .int .i64 (k' : Int) ∧ (wr.setCell ⟨b8, k, none⟩ (.int .u8 v)).heap[b8]? = some (.cells (bs (outTo S k')) 43 (0, 0)) ∧ But b8 W5 (wr.setCell ⟨b8, k, none⟩ (.int .u8 v)) := by
  subst hv
  exact ⟨k + 1, by omega, by rw [hi]; congr 1, by rw [heap_setCell_same wr b8 k _ 43 _ h8, bs_set, outTo_succ S k hk], hbut.setCell k _⟩
end Go.Proofs.YthlcmijekgjgjaaDoor
