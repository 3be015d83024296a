import Derived.Test.YtpmdlhlojifoeaaDoorP2
import Derived.Test.YtpmdlhlojifoeaaDoorP0
import Derived.Test.YtpmdlhlojifoeaaDoorTie
import Derived.Test.YtpmdlhlojifoeaaDoorCards
import Derived.SevenTiedAt
import Derived.ChangeKeysEq
namespace Go.Proofs.YtpmdlhlojifoeaaDoor
open Go.RowKit
set_option linter.unusedVariables false
set_option linter.unusedSimpArgs false

/-- The bytes with the first k of what stands behind them. -/
def pAt (l : List UInt8) (k : Nat) : List UInt8 := l ++ (padL l.length).take k
theorem pAt_len (l : List UInt8) (k : Nat) (h : k ≤ room l.length + 8) : (pAt l k).length = l.length + k := by
  simp [pAt, padL_len]; omega
theorem pAt_zero (l : List UInt8) : pAt l 0 = l := by simp [pAt]
theorem pAt_all (l : List UInt8) : pAt l (room l.length + 8) = l ++ padL l.length := by
  unfold pAt; rw [List.take_of_length_le (by rw [padL_len]; omega)]
theorem pAt_succ (l : List UInt8) (k : Nat) (b : UInt8) (h : k < room l.length + 8) (hb : (padL l.length).getD k 0 = b) : pAt l k ++ [b] = pAt l (k + 1) := by
  have hk : k < (padL l.length).length := by rw [padL_len]; omega
  unfold pAt
  rw [List.take_succ_eq_append_getElem hk, List.append_assoc]
  congr 2
  rw [← hb]
  simp [List.getElem?_eq_getElem hk]
theorem padL_get (n k : Nat) (h : k < room n + 8) : (padL n).getD k 0 = if k = 0 then 128 else if room n ≤ k then lenB n (k - room n) else 0 := by
  unfold padL padTo
  simp only [List.getD_eq_getElem?_getD, List.getElem?_map, List.getElem?_range h, Option.map_some, Option.getD_some]
  by_cases h1 : room n ≤ k
  · simp [h1, h]
  · simp [h1]
theorem room_lo (n : Nat) : 1 ≤ room n := by unfold room; omega
theorem room_hi (n : Nat) : room n ≤ 64 := by unfold room; omega
theorem room_mod (n k : Nat) (h1 : 1 ≤ k) (h2 : k ≤ room n) : (n + k) % 64 = 56 ↔ k = room n := by unfold room at *; omega
theorem room_whole (n : Nat) : (n + (room n + 8)) % 64 = 0 := by unfold room; omega

theorem app_step {w wr w0 w1 : World} {v : Value} {L : List UInt8} {O : Obj} (hown : OwnB wr (w.heap.size + 1) v L) (h0 : wr.heap[w.heap.size]? = some O) (hbel : Below w.heap.size w wr)
    (hb0 : Below wr.heap.size wr w0) (hg : w0.grownBy w1 v.ownBlock) : w1.heap[w.heap.size]? = some O ∧ Below w.heap.size w w1 := by
  have hlt : w.heap.size < wr.heap.size := (Array.getElem?_eq_some_iff.1 h0).1
  have hne : some w.heap.size ≠ v.ownBlock := fun e => by
    have := (World.ownsRow.lt hown w.heap.size e.symm).1
    omega
  have hs := hb0.size
  refine ⟨by rw [hg.block _ (by omega) hne, hb0.block _ hlt]; exact h0, ?_⟩
  exact (hbel.trans (hb0.mono (by omega))).grown hg (by omega) (fun k hk => by have := (World.ownsRow.lt hown k hk).1; omega)

/-- The state's eight cells, as they lie. -/
theorem v_cells {w : World} {g : Nat} {s : S8} (hg : w.heap[g]? = some (.cells (ws s.list) 58 (0, 0))) :
    (w.cell? ⟨g, 0, none⟩ = some (.int .u32 (U s.a)) ∧ w.cell? ⟨g, 1, none⟩ = some (.int .u32 (U s.b)) ∧ w.cell? ⟨g, 2, none⟩ = some (.int .u32 (U s.c)) ∧ w.cell? ⟨g, 3, none⟩ = some (.int .u32 (U s.d)) ∧
    w.cell? ⟨g, 4, none⟩ = some (.int .u32 (U s.e)) ∧ w.cell? ⟨g, 5, none⟩ = some (.int .u32 (U s.f)) ∧ w.cell? ⟨g, 6, none⟩ = some (.int .u32 (U s.g)) ∧ w.cell? ⟨g, 7, none⟩ = some (.int .u32 (U s.h))) ∧
    (∀ j, w.frozen? ⟨g, j, none⟩ = false) := by
  refine ⟨⟨?_, ?_, ?_, ?_, ?_, ?_, ?_, ?_⟩, fun j => frozen_of_row w g j _ _ hg⟩
  all_goals exact (cell_of_row w g _ _ _ _ hg).trans rfl
theorem v_stores {w : World} {g : Nat} {s r : S8} (hg : w.heap[g]? = some (.cells (ws s.list) 58 (0, 0))) :
    ((((((((w.setCell ⟨g, 0, none⟩ (.int .u32 (U r.a))).setCell ⟨g, 1, none⟩ (.int .u32 (U r.b))).setCell ⟨g, 2, none⟩ (.int .u32 (U r.c))).setCell ⟨g, 3, none⟩ (.int .u32 (U r.d))).setCell ⟨g, 4, none⟩ (.int .u32 (U r.e))).setCell ⟨g, 5, none⟩ (.int .u32 (U r.f))).setCell ⟨g, 6, none⟩ (.int .u32 (U r.g))).setCell ⟨g, 7, none⟩ (.int .u32 (U r.h))).heap[g]? = some (.cells (ws r.list) 58 (0, 0)) := by
  rw [heap_setCell_same _ g 7 _ 58 _ (heap_setCell_same _ g 6 _ 58 _ (heap_setCell_same _ g 5 _ 58 _ (heap_setCell_same _ g 4 _ 58 _ (heap_setCell_same _ g 3 _ 58 _ (heap_setCell_same _ g 2 _ 58 _ (heap_setCell_same _ g 1 _ 58 _ (heap_setCell_same _ g 0 _ 58 _ hg)))))))]
  simp [ws, S8.list]
theorem rmixed_lit (s : S8) (b off cap : Nat) (l : List UInt8) (w : World) (hl : l.length = 64) (hc : ∀ j, j < 64 → w.cell? ⟨b, off + j, none⟩ = some (.int .u8 (at8 l j))) (hK : RoundsAt w) :
    Calls Tryd.prog 32 #[.agg #[.int .u32 (U s.a), .int .u32 (U s.b), .int .u32 (U s.c), .int .u32 (U s.d), .int .u32 (U s.e), .int .u32 (U s.f), .int .u32 (U s.g), .int .u32 (U s.h)], .slice (some ⟨b, off, none⟩) 64 cap] w fun e w' =>
      ∃ r : S8, r = s.mix l ∧ e = .returned (.agg #[.int .u32 (U r.a), .int .u32 (U r.b), .int .u32 (U r.c), .int .u32 (U r.d), .int .u32 (U r.e), .int .u32 (U r.f), .int .u32 (U r.g), .int .u32 (U r.h)]) ∧ Below w.heap.size w w' := by
  rw [lit8]
  refine (rmixed_any s b off cap l w hl hc hK).mono ?_
  rintro e w' ⟨rfl, hb⟩
  exact ⟨s.mix l, rfl, rfl, hb⟩
/-- The table of the document's answer. -/
def RootsAt (w : World) : Prop := ∀ j, j < 8 → w.cell? ⟨1, j, none⟩ = some (.int .u32 (U (first.list.getD j 0)))
theorem roots_range {w : World} (h : RootsAt w) : w.rangeAt 1 0 (ws first.list).toList := fun j v hj => by
  have hj8 : j < 8 := by have := (List.getElem?_eq_some_iff.1 hj).1; simpa [ws, S8.list] using this
  rw [Nat.zero_add, h j hj8]
  have := ws_get first.list j (by simpa [S8.list] using hj8)
  rw [← Array.getElem?_toList] at this
  rw [← this]
  exact hj
theorem rootsAt_below {w w' : World} {B : Nat} (h : RootsAt w) (hB : 5 ≤ B) (hb : Below B w w') : RootsAt w' := fun j hj => (hb.cell (p := ⟨1, j, none⟩) (by show 1 < B; omega)).trans (h j hj)
theorem roundsAt_below {w w' : World} {B : Nat} (h : RoundsAt w) (hB : 5 ≤ B) (hb : Below B w w') : RoundsAt w' := fun j hj => (hb.cell (p := ⟨3, j, none⟩) (by show 3 < B; omega)).trans (h j hj)
theorem res14 (tmps : Array Value) (w : World) (g : Nat) (t : TypeId) (l : List UInt8) (hl : l.length = 32) (fr : Nat × Nat) (hp : tmps.getD 2 undef = .pointer (some ⟨g, 0, none⟩)) (hg : w.heap[g]? = some (.cells (bs l) t fr)) :
    (results Tryd.f14 tmps).run Tryd.prog w = .ok (.agg (bs l)) w :=
  results_cell_row Tryd.results14 tmps w g t (bs l) fr _ hp hg Tryd.underlying24 rfl (by rw [bs_size, hl]; exact hs24)
theorem lenB_int (n i : Nat) (hn : n ≤ 140737488355328) (hi : i < 8) : ((n : Int) * 8 / 2 ^ (56 - 8 * i)) % 256 = ((lenB n i).toNat : Int) := by
  unfold lenB
  rw [UInt8.toNat_ofNat', Int.natCast_emod, Int.natCast_ediv]
  simp
theorem slice64 (g3 N k cp3 : Nat) (h : k < N) (hcp : 64 * N ≤ cp3) (w : World) :
    (Instr.sliceAt 26 (.slice (some ⟨g3, 0, none⟩) (64 * N) cp3) (some (.int .i64 (64 * (k : Int)))) (some (.int .i64 (64 * (k : Int) + 64))) none).run Tryd.prog w = .ok (.slice (some ⟨g3, 64 * k, none⟩) 64 (cp3 - 64 * k)) w := by
  obtain ⟨i, hi, _, hs, _⟩ := info5'
  have hu : Tryd.prog.underlying 26 = some (.slice (Tryd.prog.elem 26)) := by kernel_rfl
  have he : Tryd.prog.elem 26 = 5 := by kernel_rfl
  rw [run_sliceAt_slice w _ _ _ _ _ hu, run_slice_lh w _ _ _ _ hu .i64 .i64 _ _ (by omega) (by omega) (by omega), he]
  have e1 : (64 * (k : Int)).toNat = 64 * k := by omega
  have e2 : (64 * (k : Int) + 64).toNat = 64 * k + 64 := by omega
  rw [e1, e2]
  have hne : ¬ (cp3 = 64 * k) := by omega
  simp [sizeOf, typeInfo, hi, hs, sliced, hne, Addr.add]
  omega
theorem v_rel {b6 N k : Nat} {F : List UInt8} {W3 wr wz : World} {sk r : S8} (hbut : But b6 W3 wr) (hb : Below wr.heap.size wr wz) (h6 : wr.heap[b6]? = some (.cells (ws sk.list) 58 (0, 0))) (hr : r = stN F (k + 1)) (hk : k < N) (i : Int) (hi : i = 64 * (k : Int) + 64) :
    ∃ k' : Nat, k' ≤ N ∧ Value.int .i64 i = .int .i64 (64 * (k' : Int)) ∧ ((((((((wz.setCell ⟨b6, 0, none⟩ (.int .u32 (U r.a))).setCell ⟨b6, 1, none⟩ (.int .u32 (U r.b))).setCell ⟨b6, 2, none⟩ (.int .u32 (U r.c))).setCell ⟨b6, 3, none⟩ (.int .u32 (U r.d))).setCell ⟨b6, 4, none⟩ (.int .u32 (U r.e))).setCell ⟨b6, 5, none⟩ (.int .u32 (U r.f))).setCell ⟨b6, 6, none⟩ (.int .u32 (U r.g))).setCell ⟨b6, 7, none⟩ (.int .u32 (U r.h))).heap[b6]? = some (.cells (ws (stN F k').list) 58 (0, 0)) ∧
      But b6 W3 ((((((((wz.setCell ⟨b6, 0, none⟩ (.int .u32 (U r.a))).setCell ⟨b6, 1, none⟩ (.int .u32 (U r.b))).setCell ⟨b6, 2, none⟩ (.int .u32 (U r.c))).setCell ⟨b6, 3, none⟩ (.int .u32 (U r.d))).setCell ⟨b6, 4, none⟩ (.int .u32 (U r.e))).setCell ⟨b6, 5, none⟩ (.int .u32 (U r.f))).setCell ⟨b6, 6, none⟩ (.int .u32 (U r.g))).setCell ⟨b6, 7, none⟩ (.int .u32 (U r.h))) := by
  have hz : wz.heap[b6]? = some (.cells (ws sk.list) 58 (0, 0)) := by rw [hb.block _ (Array.getElem?_eq_some_iff.1 h6).1]; exact h6
  refine ⟨k + 1, by omega, by rw [hi]; congr 1, ?_, ((((((((hbut.trans (But.of_below hb)).setCell 0 _).setCell 1 _).setCell 2 _).setCell 3 _).setCell 4 _).setCell 5 _).setCell 6 _).setCell 7 _⟩
  rw [v_stores hz, hr]
theorem ob_at (S : S8) (k : Nat) (hk : k < 32) : U (S.list.getD (k / 4) 0) / 2 ^ (24 - 8 * (k % 4)) % 256 = ((ob S k).toNat : Int) := by
  unfold ob U
  rw [UInt8.toNat_ofNat', Int.natCast_emod, Int.natCast_ediv]
  simp
theorem o_rel {b8 k : Nat} {S : S8} {W5 wr : World} (hk : k < 32) (h8 : wr.heap[b8]? = some (.cells (bs (outTo S k)) 24 (0, 0))) (hbut : But b8 W5 wr) (v : Int) (hv : v = ((ob S k).toNat : Int)) (i : Int) (hi : i = (k : Int) + 1) :
    ∃ k' : Nat, k' ≤ 32 ∧ Value.int .i64 i = .int .i64 (k' : Int) ∧ (wr.setCell ⟨b8, k, none⟩ (.int .u8 v)).heap[b8]? = some (.cells (bs (outTo S k')) 24 (0, 0)) ∧ But b8 W5 (wr.setCell ⟨b8, k, none⟩ (.int .u8 v)) := by
  subst hv
  exact ⟨k + 1, by omega, by rw [hi]; congr 1, by rw [heap_setCell_same wr b8 k _ 24 _ h8, bs_set, outTo_succ S k hk], hbut.setCell k _⟩
end Go.Proofs.YtpmdlhlojifoeaaDoor

namespace Go.Proofs.YtpmdlhlojifoeaaDoor
open Go.RowKit
set_option linter.unusedVariables false
set_option linter.unusedSimpArgs false

theorem hu26 : Tryd.prog.underlying 26 = some (.slice (Tryd.prog.elem 26)) := by kernel_rfl
set_option maxRecDepth 100000 in
set_option maxHeartbeats 4000000 in
theorem rsum_any (a : Option Addr) (l : List UInt8) (len cap : Nat) (w : World) (hlen : l.length = len) (hb : Byt w a l) (hl : l.length ≤ 140737488355200) (hK : RoundsAt w) (hF : RootsAt w) (h5 : 5 ≤ w.heap.size) :
    Calls Tryd.prog 14 #[.slice a len cap] w fun e w' => e = .returned (.agg (bs (sha l))) ∧ Below w.heap.size w w' := by
  subst hlen
  have bl0 : Below w.heap.size w (w.alloc (.cells (bs z32) 24)) := (Below.refl _ _).alloc (Nat.le_refl _) _
  have gr0 : (w.alloc (.cells (bs z32) 24)).heap[w.heap.size]? = some (.cells (bs z32) 24 (0, 0)) := heap_alloc_new _ _
  have B0 := byt_below hb bl0
  have hsz : w.heap.size + 1 ≤ (w.alloc (.cells (bs z32) 24)).heap.size := by simp
  have HSZ : Hid (w.heap.size + 1 ≤ (w.alloc (.cells (bs z32) 24)).heap.size) := hsz
  clear hsz
  have rlo := room_lo l.length
  have rhi := room_hi l.length
  go_enter Tryd.func14, Tryd.ntmps14
  go_wp2_with (first | (refine wpList_alloc_row rfl 24 rfl (bs z32) (hz24 _) ?_) | (at_builtin; refine wpList_app rfl (.tmp 10) (.tmp 11) rfl (w.heap.size + 1) (.slice none 0 0) [] rfl (ownB_nil _ _) a l.length cap l rfl rfl B0 (by simp; omega) HSZ.out ?_))
  intro v1 w1 own1 gr1
  have st1 := app_step (w := w) (ownB_nil _ _) gr0 bl0 (Below.refl _ _) gr1
  obtain ⟨h01, bel1⟩ := st1
  have z1 : w.heap.size < w1.heap.size := (Array.getElem?_eq_some_iff.1 h01).1
  clear gr1 gr0 bl0 B0 HSZ
  have HA1 : Hid (OwnB (w1.alloc (.cells #[.int .u8 128] 5)) (w.heap.size + 1) v1 l) := own1.below ((Below.refl _ _).alloc (Nat.le_refl _) _)
  have HB1 : Hid (Byt (w1.alloc (.cells #[.int .u8 128] 5)) (some ⟨w1.heap.size, 0, none⟩) [128]) := byt_one w1 128 5
  have HC1 : Hid (w.heap.size + 1 ≤ (w1.alloc (.cells #[.int .u8 128] 5)).heap.size) := by show _ ≤ _; simp; omega
  have HD1 : Hid (Below w1.heap.size w1 (w1.alloc (.cells #[.int .u8 128] 5))) := (Below.refl _ _).alloc (Nat.le_refl _) _
  go_wp2_with (first | (at_builtin; refine wpList_app rfl (.tmp 13) (.tmp 15) rfl (w.heap.size + 1) v1 l rfl HA1.out (some ⟨w1.heap.size, 0, none⟩) 1 1 [128] rfl rfl HB1.out (by simp; omega) HC1.out ?_) | (at_builtin; refine wpList_app rfl (.tmp 13) (.tmp 14) rfl (w.heap.size + 1) v1 l rfl HA1.out (some ⟨w1.heap.size, 0, none⟩) 1 1 [128] rfl rfl HB1.out (by simp; omega) HC1.out ?_))
  intro v2 w2 own2 gr2
  obtain ⟨h02, bel2⟩ := app_step (w := w) own1 h01 bel1 HD1.out gr2
  have e1 : l ++ [128] = pAt l 1 := by
    have := pAt_succ l 0 128 (by omega) (by rw [padL_get _ _ (by omega)]; rfl)
    rw [pAt_zero] at this
    exact this
  rw [e1] at own2
  clear HA1 HB1 HC1 HD1 e1 gr2 h01 bel1 z1 own1
  go_wp2
  go_loopw [3] (fun v wr => ∃ k : Nat, 1 ≤ k ∧ k ≤ room l.length ∧ OwnB wr (w.heap.size + 1) v (pAt l k) ∧ wr.heap[w.heap.size]? = some (.cells (bs z32) 24 (0, 0)) ∧ Below w.heap.size w wr) (fun v _ => l.length + 64 - lenOf v)
  case atStart => exact ⟨1, by omega, by omega, own2, h02, bel2⟩
  case round =>
    clear own2 h02 bel2
    obtain ⟨k, hk1, hk2, own, h0, bel⟩ := hrel
    have z1 : w.heap.size < wr.heap.size := (Array.getElem?_eq_some_iff.1 h0).1
    have HL := pAt_len l k (by omega)
    obtain ⟨g, cp, hv, hcp, hcl, hg1, hg2⟩ := own.open1 (by omega)
    rw [HL] at hv hcp
    have hmod := room_mod l.length k hk1 hk2
    obtain ⟨q, hq⟩ : ∃ q, q = l.length + k := ⟨_, rfl⟩
    have hq2 : q ≤ 140737488355264 := by omega
    rw [← hq] at hv hcp hmod
    have HQ : Hid (q = l.length + k) := hq
    clear hq
    subst hv
    by_cases h1 : k = room l.length
    · subst h1
      have hm : ((q : Int) % 64 = 56) := by have := hmod.2 rfl; omega
      clear hmod HL
      go_wp2
      clear hm
      go_loopw [3, 5] (fun v i wq => ∃ k : Nat, k ≤ 8 ∧ i = .int .i64 k ∧ OwnB wq (w.heap.size + 1) v (pAt l (room l.length + k)) ∧ wq.heap[w.heap.size]? = some (.cells (bs z32) 24 (0, 0)) ∧ Below w.heap.size w wq) (fun _ i _ => 8 - (intOf i).toNat)
      case atStart => exact ⟨0, by omega, rfl, own, h0, bel⟩
      case round =>
        clear own h0 bel hcl z1 hg1 hg2 hcp hq2 HQ hk1 hk2
        obtain ⟨k, hk, rfl, own, h0, bel⟩ := hrel
        have z1 : w.heap.size < wr.heap.size := (Array.getElem?_eq_some_iff.1 h0).1
        have HL := pAt_len l (room l.length + k) (by omega)
        by_cases h1 : k < 8
        · have ht : (56 - 8 * (k : Int)).toNat = 56 - 8 * k := by omega
          have hx := lenB_int l.length k (by omega) h1
          generalize hbb : lenB l.length k = bb at hx
          have HBB : Hid (lenB l.length k = bb) := hbb
          clear hbb
          obtain ⟨gv, cv, hv, _⟩ := own.open1 (by omega)
          rw [HL] at hv
          obtain ⟨qv, hqv⟩ : ∃ qv, qv = l.length + (room l.length + k) := ⟨_, rfl⟩
          rw [← hqv] at hv
          have HQV : Hid (qv = l.length + (room l.length + k)) := hqv
          clear hqv
          subst hv
          have HA1 : Hid (OwnB (wr.alloc (.cells #[.int .u8 (bb.toNat : Int)] 5)) (w.heap.size + 1) (.slice (some ⟨gv, 0, none⟩) qv cv) (pAt l (room l.length + k))) := own.below ((Below.refl _ _).alloc (Nat.le_refl _) _)
          have HB1 : Hid (Byt (wr.alloc (.cells #[.int .u8 (bb.toNat : Int)] 5)) (some ⟨wr.heap.size, 0, none⟩) [bb]) := byt_one wr bb 5
          have HC1 : Hid (w.heap.size + 1 ≤ (wr.alloc (.cells #[.int .u8 (bb.toNat : Int)] 5)).heap.size) := by show _ ≤ _; simp; omega
          have HD1 : Hid (Below wr.heap.size wr (wr.alloc (.cells #[.int .u8 (bb.toNat : Int)] 5))) := (Below.refl _ _).alloc (Nat.le_refl _) _
          have HE : Hid ((pAt l (room l.length + k)).length + ([bb] : List UInt8).length ≤ 140737488355328) := by show _ ≤ _; simp; omega
          clear HL
          go_wp2_with (first | (at_builtin; refine wpList_app rfl (.tmp 31) (.tmp 38) rfl (w.heap.size + 1) (.slice (some ⟨gv, 0, none⟩) qv cv) (pAt l (room l.length + k)) rfl HA1.out (some ⟨wr.heap.size, 0, none⟩) 1 1 [bb] rfl rfl HB1.out HE.out HC1.out ?_))
          intro v3 w3 own3 gr3
          obtain ⟨h03, bel3⟩ := app_step (w := w) own h0 bel HD1.out gr3
          rw [pAt_succ l (room l.length + k) bb (by omega) (by rw [padL_get _ _ (by omega), if_neg (by omega), if_pos (by omega), ← HBB.out, show room l.length + k - room l.length = k by omega])] at own3
          clear HA1 HB1 HC1 HD1 HE gr3 h0 bel own hx ht
          go_wp2
          go_roundw
          case rel => exact ⟨k + 1, by omega, by go_num, own3, h03, bel3⟩
          case measure => simp [intOf]; omega
        · obtain rfl : k = 8 := by omega
          clear h1 hk
          rw [pAt_all] at own HL
          obtain ⟨g3, cp3, hv3, hcp3, hcl3, hg3, hg3'⟩ := own.open1 (by rw [HL]; omega)
          have HW := room_whole l.length
          have SH : Hid (sha l = out (stN (l ++ padL l.length) ((l ++ padL l.length).length / 64))) := rfl
          obtain ⟨N, hN⟩ : ∃ N, (l ++ padL l.length).length = 64 * N := ⟨(l ++ padL l.length).length / 64, by rw [HL]; omega⟩
          have hNN : 64 * N ≤ 140737488355328 := by omega
          rw [hN, show 64 * N / 64 = N by omega] at SH
          clear HL HW own
          generalize l ++ padL l.length = F at *
          rw [hN] at hv3 hcp3 hcl3
          subst hv3
          have hKr := roundsAt_below hK h5 bel
          have hFr := roots_range (rootsAt_below hF h5 bel)
          have G6 : (wr.alloc (.cells (ws z8) 58)).heap[wr.heap.size]? = some (.cells (ws z8) 58 (0, 0)) := heap_alloc_new _ _
          have ZF : (ws z8).size = (ws first.list).size := rfl
          have ZI : (Tryd.prog.info? 58).map (·.size) = some (ws first.list).size := hs58
          go_wp2_with (first | (refine wpList_load_mid rfl 58 (.global 1) rfl 1 0 rfl (ws first.list).toList _ hFr Tryd.underlying58 rfl (by exact hs58) ?_) | (refine wpList_alloc_row rfl 58 rfl (ws z8) (hz58 _) ?_) | (refine wpList_store_row rfl 58 (.tmp 6) (.tmp 40) rfl _ (ws first.list) rfl rfl 58 (ws z8) G6 ZI ZF (ws_one _) ?_; rw [World.setRow_alloc_new]))
          have g6 : (wr.alloc (.cells (ws first.list) 58)).heap[wr.heap.size]? = some (.cells (ws first.list) 58 (0, 0)) := heap_alloc_new _ _
          have be6 : Below wr.heap.size wr (wr.alloc (.cells (ws first.list) 58)) := (Below.refl _ _).alloc (Nat.le_refl _) _
          generalize (wr.alloc (.cells (ws first.list) 58)) = W3 at *
          have z3 : wr.heap.size < W3.heap.size := (Array.getElem?_eq_some_iff.1 g6).1
          have hc3 : ∀ j, j < 64 * N → W3.cell? ⟨g3, j, none⟩ = some (.int .u8 (at8 F j)) := fun j hj => (be6.cell (p := ⟨g3, j, none⟩) hg3').trans (hcl3 j hj)
          have belW : Below w.heap.size w W3 := bel.trans (be6.mono (by omega))
          have hK3 : RoundsAt W3 := roundsAt_below hK h5 belW
          have h03 : W3.heap[w.heap.size]? = some (.cells (bs z32) 24 (0, 0)) := by rw [be6.block _ z1]; exact h0
          obtain ⟨b6, hb6⟩ : ∃ b6, b6 = wr.heap.size := ⟨_, rfl⟩
          rw [← hb6] at g6 z3 hg3' z1 ⊢
          clear G6 ZF ZI hFr hcl3 hKr h0 bel be6 hb6
          go_loopw [7] (fun i wq => ∃ k : Nat, k ≤ N ∧ i = .int .i64 (64 * (k : Int)) ∧ wq.heap[b6]? = some (.cells (ws (stN F k).list) 58 (0, 0)) ∧ But b6 W3 wq) (fun i _ => 64 * N - (intOf i).toNat)
          case atStart => exact ⟨0, by omega, by simp, g6, But.refl _ _⟩
          case round =>
            clear g6
            obtain ⟨k, hk, rfl, h6, hbut⟩ := hrel
            have z4 : W3.heap.size ≤ wr.heap.size := hbut.size
            by_cases h1 : k < N
            · have hcpk : 64 * k + 64 ≤ cp3 := by omega
              obtain ⟨⟨y0, y1, y2, y3, y4, y5, y6, y7⟩, yf⟩ := v_cells h6
              have hKr : RoundsAt wr := fun j hj => (hbut.cell (p := ⟨3, j, none⟩) (block_lt_of_cell (hK3 j hj)) (by show 3 ≠ b6; omega)).trans (hK3 j hj)
              have H : Hid (∀ cp wx, wx.heap = wr.heap → Calls Tryd.prog 32 #[.agg #[.int .u32 (U (stN F k).a), .int .u32 (U (stN F k).b), .int .u32 (U (stN F k).c), .int .u32 (U (stN F k).d), .int .u32 (U (stN F k).e), .int .u32 (U (stN F k).f), .int .u32 (U (stN F k).g), .int .u32 (U (stN F k).h)], .slice (some ⟨g3, 64 * k, none⟩) 64 cp] wx fun e w' =>
                  ∃ r : S8, r = stN F (k + 1) ∧ e = .returned (.agg #[.int .u32 (U r.a), .int .u32 (U r.b), .int .u32 (U r.c), .int .u32 (U r.d), .int .u32 (U r.e), .int .u32 (U r.f), .int .u32 (U r.g), .int .u32 (U r.h)]) ∧ Below wx.heap.size wx w') := fun cp wx hx =>
                rmixed_lit (stN F k) g3 (64 * k) cp ((F.drop (64 * k)).take 64) wx (by simp; omega) (fun j hj => by
                  have e : at8 ((F.drop (64 * k)).take 64) j = at8 F (64 * k + j) := by simp [at8, List.getElem?_take, hj]
                  rw [e, World.cell?_of_block (w := wr) (by rw [hx])]
                  exact (hbut.cell (p := ⟨g3, 64 * k + j, none⟩) (by show g3 < _; omega) (by show g3 ≠ b6; omega)).trans (hc3 _ (by omega))) (fun j hj => by rw [World.cell?_of_block (w := wr) (by rw [hx])]; exact hKr j hj)
              generalize stN F k = sk at *
              have hwr : IntKind.i64.wrap (64 * (k : Int) + 64) = 64 * (k : Int) + 64 := by rw [IntKind.wrap_i64]; omega
              have hsl := slice64 g3 N k cp3 h1 hcp3
              have hsl2 : ∀ wx, (Instr.slice 26 (.slice (some ⟨g3, 0, none⟩) (64 * N) cp3) (some (.int .i64 (64 * (k : Int)))) (some (.int .i64 (64 * (k : Int) + 64))) none).run Tryd.prog wx = .ok (.slice (some ⟨g3, 64 * k, none⟩) 64 (cp3 - 64 * k)) wx := fun wx => (run_sliceAt_slice wx _ _ _ _ _ hu26).symm.trans (hsl wx)
              clear hK3 hc3
              go_wp2
              go_region_with (go_at_call 32; refine (H.out _ _ ?_).mono ?_; rfl; rintro e wz ⟨r, hr, rfl, hbz⟩; have HR : Hid (r = stN F (k + 1)) := hr; clear hr; have hgz : wz.heap[b6]? = some (.cells (ws sk.list) 58 (0, 0)) := (hbz.block b6 (by show b6 < wr.heap.size; omega)).trans h6; obtain ⟨⟨q0, q1, q2, q3, q4, q5, q6, q7⟩, qf⟩ := v_cells hgz)
              clear y0 y1 y2 y3 y4 y5 y6 y7 yf q0 q1 q2 q3 q4 q5 q6 q7 qf
              go_wp2
              all_goals go_roundw
              case rel => exact v_rel hbut (below_of_drew hbz) h6 HR.out h1 _ rfl
              case measure => simp [intOf]; omega
            · obtain rfl : k = N := by omega
              clear h1 hk
              generalize stN F k = S at *
              have W5b : Below wr.heap.size wr (wr.alloc (.cells (bs z32) 24)) := (Below.refl _ _).alloc (Nat.le_refl _) _
              have W58 : (wr.alloc (.cells (bs z32) 24)).heap[wr.heap.size]? = some (.cells (bs z32) 24 (0, 0)) := heap_alloc_new _ _
              have W5z := hbut.below (B := w.heap.size) (by omega) (by omega)
              have W50 : wr.heap[w.heap.size]? = some (.cells (bs z32) 24 (0, 0)) := by rw [hbut.block _ (by omega) (by omega)]; exact h03
              go_wp2_with (first | (refine wpList_alloc_row rfl 24 rfl (bs z32) (hz24 _) ?_))
              generalize (wr.alloc (.cells (bs z32) 24)) = W5 at *
              have b60 : W5.heap[b6]? = some (.cells (ws S.list) 58 (0, 0)) := by rw [W5b.block _ (by omega)]; exact h6
              have b00 : W5.heap[w.heap.size]? = some (.cells (bs z32) 24 (0, 0)) := by rw [W5b.block _ (by omega)]; exact W50
              have BW : Below w.heap.size w W5 := (belW.trans W5z).trans (W5b.mono (by omega))
              have zz5 : wr.heap.size < W5.heap.size := (Array.getElem?_eq_some_iff.1 W58).1
              obtain ⟨b8, hb8⟩ : ∃ b8, b8 = wr.heap.size := ⟨_, rfl⟩
              rw [← hb8] at W58 zz5 z4 ⊢
              clear W5b W5z W50 belW hbut h6 h03 hb8 hK3 hc3
              go_loopw [9] (fun i wq => ∃ k : Nat, k ≤ 32 ∧ i = .int .i64 (k : Int) ∧ wq.heap[b8]? = some (.cells (bs (outTo S k)) 24 (0, 0)) ∧ But b8 W5 wq) (fun i _ => 32 - (intOf i).toNat)
              case atStart => exact ⟨0, by omega, by simp, by rw [outTo_zero]; exact W58, But.refl _ _⟩
              case round =>
                clear W58
                obtain ⟨n, hn, rfl, h8, hbut⟩ := hrel
                have z8' : W5.heap.size ≤ wr.heap.size := hbut.size
                have b6r : wr.heap[b6]? = some (.cells (ws S.list) 58 (0, 0)) := by rw [hbut.block _ (by omega) (by omega)]; exact b60
                by_cases h1 : n < 32
                · have c6 := (cell_of_row wr b6 (n / 4) _ _ _ b6r).trans (ws_get S.list (n / 4) (by simp [S8.list]; omega))
                  have c8 := (cell_of_row wr b8 n _ _ _ h8).trans (bs_get _ n (by rw [outTo_len]; omega))
                  have f8 := frozen_of_row wr b8 n _ _ h8
                  have hob := ob_at S n h1
                  have ht : ((n : Int) / 4).toNat = n / 4 := by omega
                  have ht2 : (24 - 8 * ((n : Int) % 4)).toNat = 24 - 8 * (n % 4) := by omega
                  have hb4 : (n : Int) / 4 < 8 := by omega
                  have hb5 : 0 ≤ (n : Int) / 4 := by omega
                  have hb6 : 0 ≤ (n : Int) % 4 := by omega
                  have hb7 : (n : Int) % 4 < 4 := by omega
                  generalize S.list.getD (n / 4) 0 = x at *
                  go_wp2
                  go_roundw
                  case rel => exact o_rel h1 h8 hbut _ rfl _ rfl
                  case measure => simp [intOf]; omega
                · obtain rfl : n = 32 := by omega
                  have h8q : wr.heap[b8]? = some (.cells (bs (out S)) 24 (0, 0)) := h8
                  have b0r : wr.heap[w.heap.size]? = some (.cells (bs z32) 24 (0, 0)) := by rw [hbut.block _ (by omega) (by omega)]; exact b00
                  have LO : (out S).length = 32 := outTo_len _ _
                  have BE : Below w.heap.size w wr := BW.trans (hbut.below (by omega) (by omega))
                  clear h8 hbut b6r BW b00 b60
                  go_wp2_with (first | (refine wpList_load_arr rfl 24 (.tmp 8) rfl b8 rfl 24 (bs (out S)) (0, 0) _ h8q Tryd.underlying24 rfl (by rw [bs_size, LO]; exact hs24) ?_) | (refine wpList_store_row rfl 24 (.tmp 2) (.tmp 70) rfl w.heap.size (bs (out S)) rfl rfl 24 (bs z32) b0r (by rw [bs_size, LO]; exact hs24) (by rw [bs_size, bs_size, LO]; rfl) (bs_one _) ?_))
                  exact bodyPost_ret (res14 _ _ w.heap.size 24 (out S) LO (0, 0) rfl (setRow_heap _ _ _ _ _ _ b0r)) rfl ⟨by rw [SH.out], BE.trans (below_setRow _ _ _ _ (Nat.le_refl _))⟩
    · have hm : ¬ ((q : Int) % 64 = 56) := by have := mt hmod.1 h1; omega
      have HA1 : Hid (OwnB (wr.alloc (.cells #[.int .u8 0] 5)) (w.heap.size + 1) (.slice (some ⟨g, 0, none⟩) q cp) (pAt l k)) := own.below ((Below.refl _ _).alloc (Nat.le_refl _) _)
      have HB1 : Hid (Byt (wr.alloc (.cells #[.int .u8 0] 5)) (some ⟨wr.heap.size, 0, none⟩) [0]) := byt_one wr 0 5
      have HC1 : Hid (w.heap.size + 1 ≤ (wr.alloc (.cells #[.int .u8 0] 5)).heap.size) := by show _ ≤ _; simp; omega
      have HD1 : Hid (Below wr.heap.size wr (wr.alloc (.cells #[.int .u8 0] 5))) := (Below.refl _ _).alloc (Nat.le_refl _) _
      have HE : Hid ((pAt l k).length + ([0] : List UInt8).length ≤ 140737488355328) := by show _ ≤ _; simp; omega
      clear hmod HL
      go_wp2_with (first | (at_builtin; refine wpList_app rfl (.tmp 20) (.tmp 21) rfl (w.heap.size + 1) (.slice (some ⟨g, 0, none⟩) q cp) (pAt l k) rfl HA1.out (some ⟨wr.heap.size, 0, none⟩) 1 1 [0] rfl rfl HB1.out HE.out HC1.out ?_))
      intro v3 w3 own3 gr3
      obtain ⟨h03, bel3⟩ := app_step (w := w) own h0 bel HD1.out gr3
      rw [pAt_succ l k 0 (by omega) (by rw [padL_get _ _ (by omega), if_neg (by omega), if_neg (by omega)])] at own3
      have HL3 := pAt_len l (k + 1) (by omega)
      obtain ⟨g3, cp3, hv3, _⟩ := own3.open1 (by omega)
      rw [HL3] at hv3
      have HQ2 := HQ.out
      clear HA1 HB1 HC1 HD1 HE gr3 h0 bel own hcl
      go_wp2
      go_roundw
      case rel => exact ⟨k + 1, by omega, by omega, own3, h03, bel3⟩
      case measure => rw [hv3]; simp [lenOf]; omega
end Go.Proofs.YtpmdlhlojifoeaaDoor

namespace Go.Proofs.YtpmdlhlojifoeaaDoor
open Go.ChangeShapes Go.WideShapes Go.ChangeAt Go.RowKit
set_option linter.unusedVariables false
set_option linter.unusedSimpArgs false

/-- A listed table of numbers of 32 bits: its cells. -/
theorem tab_cells {W : World} {name : String} {l : List UInt32} {laid : List (String × DataW Unit)} {g : Nat} {t : TypeId} {n : Nat} (h : laidMet Tryd.prog laid W) (hm : (name, Lib.tabData .u32 (l.map U)) ∈ laid)
    (hg : Tryd.prog.globalNamed name = some g) (hty : (Tryd.prog.globals[g]?).map (·.type) = some t) (ht : Tryd.prog.underlying t = some (.array n 27)) (hct : Tryd.prog.cellsOf t = n) :
    ∀ j, j < l.length → W.cell? ⟨g, j, none⟩ = some (.int .u32 (U (l.getD j 0))) := by
  obtain ⟨g', t', cs, fuel, p, hg', ht', hvar, hd⟩ := Lib.laidMet.reads h hm
  obtain rfl := Option.some.inj (hg.symm.trans hg')
  obtain rfl := Option.some.inj (hty.symm.trans ht')
  have hc := Lib.cells_of_tab ht Tryd.underlying27 (by kernel_rfl) hct hd
  have hT : Lib.TabIs Tryd.prog W name .u32 (l.map U) := by
    unfold Lib.TabIs
    rw [hvar, ← hc]
  intro j hj
  rw [hT.cell hg j (by simpa using hj)]
  have e : (l.map U).getD j 0 = U (l.getD j 0) := by simp [List.getElem?_eq_getElem hj]
  rw [e]

theorem gNib : Tryd.prog.globalNamed "estuary/digest.crcNibbles" = some 0 := by kernel_rfl
theorem gFirst : Tryd.prog.globalNamed "estuary/digest.firstState" = some 2 := by kernel_rfl
theorem gKeys : Tryd.prog.globalNamed "estuary/digest.roundKeys" = some 4 := by kernel_rfl
theorem dNib {H : Type} : (Rows.laid_estuary_digest_crcNibbles : DataW H) = Lib.tabData .u32 (nibs.map U) := by kernel_rfl
theorem dFirst {H : Type} : (Rows.laid_estuary_digest_firstState : DataW H) = Lib.tabData .u32 (first.list.map U) := by kernel_rfl
theorem dKeys {H : Type} : (Rows.laid_estuary_digest_roundKeys : DataW H) = Lib.tabData .u32 (keys.map U) := by kernel_rfl

theorem nibs_of {W : World} {laid : List (String × DataW Unit)} (h : laidMet Tryd.prog laid W) (hm : ("estuary/digest.crcNibbles", Rows.laid_estuary_digest_crcNibbles) ∈ laid) : NibsAt W := by
  rw [dNib] at hm
  exact tab_cells (n := 16) h hm gNib (t := 53) (by kernel_rfl) Tryd.underlying53 (by kernel_rfl)
theorem first_of {W : World} {laid : List (String × DataW Unit)} (h : laidMet Tryd.prog laid W) (hm : ("estuary/digest.firstState", Rows.laid_estuary_digest_firstState) ∈ laid) : FirstAt W := by
  rw [dFirst] at hm
  exact tab_cells (n := 8) h hm gFirst (t := 58) (by kernel_rfl) Tryd.underlying58 (by kernel_rfl)
theorem keys_of {W : World} {laid : List (String × DataW Unit)} (h : laidMet Tryd.prog laid W) (hm : ("estuary/digest.roundKeys", Rows.laid_estuary_digest_roundKeys) ∈ laid) : KeysAt W := by
  rw [dKeys] at hm
  exact tab_cells (n := 64) h hm gKeys (t := 67) (by kernel_rfl) Tryd.underlying67 (by kernel_rfl)

theorem gRoots : Tryd.prog.globalNamed "estuary/estuaryref01.roots" = some 1 := by kernel_rfl
theorem gRounds : Tryd.prog.globalNamed "estuary/estuaryref01.rounds" = some 3 := by kernel_rfl
theorem dRoots {H : Type} : (Rows.laid_estuary_estuaryref01_roots : DataW H) = Lib.tabData .u32 (first.list.map U) := by kernel_rfl
theorem dRounds {H : Type} : (Rows.laid_estuary_estuaryref01_rounds : DataW H) = Lib.tabData .u32 (keys.map U) := by kernel_rfl
theorem roots_of {W : World} {laid : List (String × DataW Unit)} (h : laidMet Tryd.prog laid W) (hm : ("estuary/estuaryref01.roots", Rows.laid_estuary_estuaryref01_roots) ∈ laid) : RootsAt W := by
  rw [dRoots] at hm
  exact tab_cells (n := 8) h hm gRoots (t := 58) (by kernel_rfl) Tryd.underlying58 (by kernel_rfl)
theorem rounds_of {W : World} {laid : List (String × DataW Unit)} (h : laidMet Tryd.prog laid W) (hm : ("estuary/estuaryref01.rounds", Rows.laid_estuary_estuaryref01_rounds) ∈ laid) : RoundsAt W := by
  rw [dRounds] at hm
  exact tab_cells (n := 64) h hm gRounds (t := 67) (by kernel_rfl) Tryd.underlying67 (by kernel_rfl)
theorem reach_of {H : Type} {ts : List TypeId} {ds : List (DataW H)} (hsz : (DataW.weightsEach Tryd.prog ts ds).all (· ≤ reachBytes) = true) (j : Nat) (ht : ts[j]? = some 26) {d : DataW H} (hd : ds[j]? = some d) {len : Nat}
    (h : d = .nil ∧ len = 0 ∨ ∃ el sp, d = .slice el sp ∧ el.length = len) : len ≤ 140737488351232 := by
  rcases h with ⟨_, rfl⟩ | ⟨el, sp, rfl, rfl⟩
  · omega
  · have := sized_slice hsz (j := j) (t := 26) (e := 5) ht hd Tryd.underlying26
    rw [bytes5] at this
    simp only [reachBytes] at this
    omega
theorem byt_of {W : World} {a : Option Addr} {L : List UInt8} {len : Nat} (hl : L.length = len) (h : 0 < len → ∃ b off, a = some ⟨b, off, none⟩ ∧ ∀ j, j < len → W.cell? ⟨b, off + j, none⟩ = some (.int .u8 (at8 L j))) : Byt W a L := by
  by_cases h0 : 0 < len
  · obtain ⟨b, off, e, hc⟩ := h h0
    exact .inr ⟨b, off, e, fun j hj => hc j (by omega)⟩
  · exact .inl (List.eq_nil_of_length_eq_zero (by omega))
end Go.Proofs.YtpmdlhlojifoeaaDoor

namespace Go.Proofs.YtpmdlhlojifoeaaDoor
open Go.RowKit
set_option linter.unusedVariables false
set_option linter.unusedSimpArgs false

theorem rep_below {w w' : World} {g : Nat} {m : List UInt8} (h : Rep w g m) (hb : Below w.heap.size w w') : Rep w' g m := by
  obtain ⟨bl, hg, h1, h2⟩ := h
  exact ⟨bl, by rw [hb.block g (Array.getElem?_eq_some_iff.1 hg).1]; exact hg, h1, h2⟩
theorem rep_but {w w' : World} {g f : Nat} {m : List UInt8} (h : Rep w g m) (hb : But f w w') (hf : g ≠ f) : Rep w' g m := by
  obtain ⟨bl, hg, h1, h2⟩ := h
  exact ⟨bl, by rw [hb.block g (Array.getElem?_eq_some_iff.1 hg).1 hf]; exact hg, h1, h2⟩
theorem rep_lt {w : World} {g : Nat} {m : List UInt8} (h : Rep w g m) : g < w.heap.size := by
  obtain ⟨bl, hg, _⟩ := h
  exact (Array.getElem?_eq_some_iff.1 hg).1

set_option maxRecDepth 100000 in
set_option maxHeartbeats 4000000 in
theorem write_u0e (g : Nat) (m : List UInt8) (a : Option Addr) (cap : Nat) (w : World) (hr : Rep w g m) (hm : m.length ≤ 1152921504606846976) (hu : m.length % 64 = 0) :
    Calls Tryd.prog 21 #[.pointer (some ⟨g, 0, none⟩), .slice a 0 cap] w fun e w' => e = .returned (.tuple #[]) ∧ Rep w' g (m ++ []) ∧ But g w w' := by
  obtain ⟨bl, hg, hbl, htk⟩ := hr
  have q72 := (cell_of_row w g 72 _ _ _ hg).trans (hc_len _ bl _ hbl)
  have f72 := frozen_of_row w g 72 _ _ hg
  have R : Rep (w.setCell ⟨g, 72, none⟩ (.int .i64 (m.length : Int))) g (m ++ []) := by
    rw [List.append_nil]
    exact ⟨bl, by rw [heap_setCell_same w g 72 _ 62 _ hg, hc_setLen _ _ _ _ hbl], hbl, htk⟩
  have B : But g w (w.setCell ⟨g, 72, none⟩ (.int .i64 (m.length : Int))) := (But.refl _ _).setCell 72 _
  have RH : Hid (_ ∧ _) := And.intro R B
  clear R B
  have hu2 : (m.length : Int) % 64 = 0 := by omega
  have HM : Hid (Nat.min 0 64 = 0) := rfl
  go_enter Tryd.func21, Tryd.ntmps21
  go_wp2
  refine wp_loop_rounds 1 ?_
  rw [rounds_succ]
  go_wp2_with (refine wpList_copy_nothing rfl (.tmp 68) (.tmp 69) 26 26 rfl 5 Tryd.underlying26 hsz5 _ _ 64 64 0 cap rfl rfl HM.out ?_)
  have RF := RH.out
  go_end0
  exact ⟨rfl, by simpa using RF.1, RF.2⟩

/-- Write, of a slice that may lie anywhere if it is empty. -/
theorem write_free (g : Nat) (m l : List UInt8) (a : Option Addr) (len cap : Nat) (w : World) (hlen : l.length = len) (hr : Rep w g m) (hb : Byt w a l) (hbg : 0 < l.length → ∀ b off, a = some ⟨b, off, none⟩ → b ≠ g) (hK : KeysAt w) (hg4 : g ≠ 4)
    (hm : m.length ≤ 1152921504606846976) (hl : l.length ≤ 1152921504606846976) (hcap : l.length ≤ cap) :
    Calls Tryd.prog 21 #[.pointer (some ⟨g, 0, none⟩), .slice a len cap] w fun e w' => e = .returned (.tuple #[]) ∧ Rep w' g (m ++ l) ∧ But g w w' := by
  by_cases h0 : 0 < l.length
  · exact write_any g m l a len cap w hlen hr hb (hbg h0) hK hg4 hm hl hcap
  · obtain rfl : l = [] := List.eq_nil_of_length_eq_zero (by omega)
    subst hlen
    by_cases hu : m.length % 64 = 0
    · exact write_u0e g m a cap w hr hm hu
    · exact write_u1e g m a cap w hr hm (by omega)

set_option maxRecDepth 100000 in
set_option maxHeartbeats 2000000 in
theorem fork_any (g : Nat) (m : List UInt8) (w : World) (hr : Rep w g m) :
    Calls Tryd.prog 25 #[.pointer (some ⟨g, 0, none⟩)] w fun e w' => e = .returned (.pointer (some ⟨w.heap.size, 0, none⟩)) ∧ Rep w' w.heap.size m ∧ Below w.heap.size w w' ∧ w.heap.size < w'.heap.size := by
  obtain ⟨bl, hg, hbl, htk⟩ := hr
  have S73 := hc_size (stN m (m.length / 64)) bl (m.length : Int) hbl
  have I1 : Hid ((Tryd.prog.info? 62).map (·.size) = some (hc (stN m (m.length / 64)) bl (m.length : Int)).size) := by show _ = _; rw [S73]; exact hs62
  have I2 : Hid ((hc s0 z64 0).size = (hc (stN m (m.length / 64)) bl (m.length : Int)).size) := by show _ = _; rw [S73]; exact hc0_size
  have I3 : Hid ((hc (stN m (m.length / 64)) bl (m.length : Int)).all (·.oneCell') = true) := hc_one _ _ _
  clear S73
  have R : Hid (Rep (w.alloc (.cells (hc (stN m (m.length / 64)) bl (m.length : Int)) 62)) w.heap.size m) := ⟨bl, heap_alloc_new _ _, hbl, htk⟩
  have B : Hid (Below w.heap.size w (w.alloc (.cells (hc (stN m (m.length / 64)) bl (m.length : Int)) 62))) := (Below.refl _ _).alloc (Nat.le_refl _) _
  clear htk
  go_enter Tryd.func25, Tryd.ntmps25
  go_wp2_with (first | (refine wpList_load_arr rfl 62 (.tmp 7) rfl g rfl 62 (hc (stN m (m.length / 64)) bl (m.length : Int)) (0, 0) _ hg Tryd.underlying62 rfl I1.out ?_) | (refine wpList_alloc_row rfl 62 rfl (hc s0 z64 0) (hz62 _) ?_) | (refine wpList_store_row rfl 62 (.tmp 3) (.tmp 8) rfl w.heap.size (hc (stN m (m.length / 64)) bl (m.length : Int)) rfl rfl 62 (hc s0 z64 0) (heap_alloc_new _ _) I1.out I2.out I3.out ?_; rw [World.setRow_alloc_new]))
  go_ret
  exact ⟨rfl, R.out, B.out, by simp⟩
theorem len_any (g : Nat) (m : List UInt8) (w : World) (hr : Rep w g m) :
    Calls Tryd.prog 23 #[.pointer (some ⟨g, 0, none⟩)] w fun e w' => e = .returned (.int .i64 (m.length : Int)) ∧ w' = w := by
  obtain ⟨bl, hg, hbl, htk⟩ := hr
  have q72 := (cell_of_row w g 72 _ _ _ hg).trans (hc_len _ bl _ hbl)
  go_enter Tryd.func23, Tryd.ntmps23
  go_wp2
  go_ret
  exact ⟨rfl, rfl⟩
end Go.Proofs.YtpmdlhlojifoeaaDoor

namespace Go.Proofs.YtpmdlhlojifoeaaDoor
open Go.RowKit
set_option linter.unusedVariables false
set_option linter.unusedSimpArgs false

/-- Who owns a block: what is new is i's. -/
def nw (T : Nat → Nat) (w : World) (i : Nat) : Nat → Nat := fun y => if y < w.heap.size then T y else i
theorem nw_old {T : Nat → Nat} {w : World} {i y : Nat} (h : y < w.heap.size) : nw T w i y = T y := if_pos h
theorem nw_new {T : Nat → Nat} {w : World} {i y : Nat} (h : w.heap.size ≤ y) : nw T w i y = i := if_neg (by omega)

/-- All is as it was, but for what i owns. -/
structure Fr (B : Nat) (T : Nat → Nat) (i : Nat) (w w' : World) : Prop where
  os : w'.os = w.os
  tape : w'.tape = w.tape
  output : w'.output = w.output
  size : w.heap.size ≤ w'.heap.size
  block : ∀ k, k < w.heap.size → (k < B ∨ T k ≠ i) → w'.heap[k]? = w.heap[k]?
theorem Fr.below {B : Nat} {T : Nat → Nat} {i : Nat} {w w' : World} (h : Fr B T i w w') (hB : B ≤ w.heap.size) : Below B w w' := ⟨h.os, h.tape, h.output, h.size, fun k hk => h.block k (by omega) (.inl hk)⟩
theorem Fr.of_below {B : Nat} {T : Nat → Nat} {i : Nat} {w w' : World} (h : Below w.heap.size w w') : Fr B T i w w' := ⟨h.os, h.tape, h.output, h.size, fun k hk _ => h.block k hk⟩
theorem Fr.of_but {B : Nat} {T : Nat → Nat} {i g : Nat} {w w' : World} (h : But g w w') (hg : B ≤ g) (ht : T g = i) : Fr B T i w w' := ⟨h.os, h.tape, h.output, h.size, fun k hk hn => h.block k hk fun e => by
  subst e
  rcases hn with hn | hn
  · omega
  · exact hn ht⟩
theorem Fr.of_grown {B : Nat} {T : Nat → Nat} {i : Nat} {row : Option Nat} {w w' : World} (h : w.grownBy w' row) (hr : ∀ k, row = some k → B ≤ k ∧ T k = i) : Fr B T i w w' := ⟨h.os, h.tape, h.output, h.size, fun k hk hn => h.block k hk fun e => by
  obtain ⟨h1, h2⟩ := hr k e.symm
  rcases hn with hn | hn
  · omega
  · exact hn h2⟩

theorem ownsRow_keep {w w' : World} {base : Nat} {e : TypeId} {size : Nat} {v : Value} {n : Nat} {xs : List Value} (h : w.ownsRow base e size v n xs) (hb : ∀ g, v.ownBlock = some g → w'.heap[g]? = w.heap[g]?) : w'.ownsRow base e size v n xs := by
  refine ⟨h.1, ?_⟩
  rcases h.2 with hn | ⟨g, cap, cur, rfl, hbg, hg, rest⟩
  · exact .inl hn
  · exact .inr ⟨g, cap, cur, rfl, hbg, by rw [hb g rfl]; exact hg, rest⟩
theorem rep_of {w w' : World} {g : Nat} {m : List UInt8} (h : Rep w g m) (e : w'.heap[g]? = w.heap[g]?) : Rep w' g m := by
  obtain ⟨bl, hg, h1, h2⟩ := h
  exact ⟨bl, e.trans hg, h1, h2⟩

/-! The program's hashers. -/
def pl (e : Option (Nat × List UInt8)) : Value := .pointer (e.map fun x => ⟨x.1, 0, none⟩)
structure HL (B : Nat) (T : Nat → Nat) (w : World) (lv : Value) (E : List (Option (Nat × List UInt8))) : Prop where
  own : w.ownsRow B 35 1 lv E.length (E.map pl)
  tag : ∀ b, lv.ownBlock = some b → T b = 0
  rep : ∀ (j g : Nat) (m : List UInt8), E[j]? = some (some (g, m)) → Rep w g m ∧ B ≤ g ∧ T g = 2 * j + 4

theorem HL.keep {B : Nat} {T : Nat → Nat} {w w' : World} {lv : Value} {E : List (Option (Nat × List UInt8))} {i : Nat} (h : HL B T w lv E) (f : Fr B T i w w') (hi : i % 2 = 1 ∨ i = 2) : HL B (nw T w i) w' lv E := by
  refine ⟨ownsRow_keep h.own fun b hb => ?_, fun b hb => ?_, fun j g m hj => ?_⟩
  · have l := World.ownsRow.lt h.own b hb
    exact f.block b l.2 (.inr (by rw [h.tag b hb]; omega))
  · rw [nw_old (World.ownsRow.lt h.own b hb).2]; exact h.tag b hb
  · obtain ⟨r, h1, h2⟩ := h.rep j g m hj
    exact ⟨rep_of r (f.block g (rep_lt r) (.inr (by rw [h2]; omega))), h1, by rw [nw_old (rep_lt r)]; exact h2⟩
theorem HL.app {B : Nat} {T : Nat → Nat} {w w' : World} {lv lv' : Value} {E : List (Option (Nat × List UInt8))} (h : HL B T w lv E) (x : Option (Nat × List UInt8))
    (hx : ∀ g m, x = some (g, m) → Rep w g m ∧ B ≤ g ∧ T g = 2 * E.length + 4) (own' : w'.ownsRow B 35 1 lv' (E.length + 1) (E.map pl ++ [pl x])) (gr : w.grownBy w' lv.ownBlock)
    (at' : lv'.ownBlock = lv.ownBlock ∨ lv'.ownBlock = some w.heap.size) : HL B (nw T w 0) w' lv' (E ++ [x]) ∧ Fr B T 0 w w' := by
  have f : Fr B T 0 w w' := Fr.of_grown gr fun k hk => ⟨(World.ownsRow.lt h.own k hk).1, h.tag k hk⟩
  refine ⟨⟨by simpa using own', fun b hb => ?_, fun j g m hj => ?_⟩, f⟩
  · rcases at' with e | e
    · rw [e] at hb
      rw [nw_old (World.ownsRow.lt h.own b hb).2]; exact h.tag b hb
    · rw [e] at hb; cases hb; exact nw_new (Nat.le_refl _)
  · have hR : Rep w g m ∧ B ≤ g ∧ T g = 2 * j + 4 := by
      by_cases hjl : j < E.length
      · rw [List.getElem?_append_left hjl] at hj
        exact h.rep j g m hj
      · rw [List.getElem?_append_right (by omega)] at hj
        have : j = E.length := by
          have := (List.getElem?_eq_some_iff.1 hj).1
          simp at this; omega
        subst this
        simp at hj
        exact hx g m hj
    obtain ⟨r, h1, h2⟩ := hR
    exact ⟨rep_of r (f.block g (rep_lt r) (.inr (by rw [h2]; omega))), h1, by rw [nw_old (rep_lt r)]; exact h2⟩
theorem map_set_same {α β : Type} (p : α → β) (E : List α) (j : Nat) (x y : α) (hj : E[j]? = some x) (h : p y = p x) : (E.set j y).map p = E.map p := by
  apply List.ext_getElem?
  intro k
  rw [List.getElem?_map, List.getElem?_map, List.getElem?_set]
  by_cases e : j = k
  · subst e
    have hl := (List.getElem?_eq_some_iff.1 hj).1
    rw [if_pos rfl, if_pos hl, hj]
    simp [h]
  · rw [if_neg e]
theorem HL.set {B : Nat} {T : Nat → Nat} {w w' : World} {lv : Value} {E : List (Option (Nat × List UInt8))} {j g : Nat} {m m' : List UInt8} (h : HL B T w lv E) (hj : E[j]? = some (some (g, m))) (f : Fr B T (2 * j + 4) w w') (r : Rep w' g m') :
    HL B (nw T w (2 * j + 4)) w' lv (E.set j (some (g, m'))) := by
  have hl := (List.getElem?_eq_some_iff.1 hj).1
  refine ⟨?_, fun b hb => ?_, fun k g2 m2 hk => ?_⟩
  · rw [map_set_same pl E j (some (g, m)) (some (g, m')) hj rfl, List.length_set]
    refine ownsRow_keep h.own fun b hb => ?_
    exact f.block b (World.ownsRow.lt h.own b hb).2 (.inr (by rw [h.tag b hb]; omega))
  · rw [nw_old (World.ownsRow.lt h.own b hb).2]; exact h.tag b hb
  · rw [List.getElem?_set] at hk
    by_cases e : j = k
    · subst e
      rw [if_pos rfl, if_pos hl] at hk
      simp at hk
      obtain ⟨rfl, rfl⟩ := hk
      obtain ⟨r0, h1, h2⟩ := h.rep j g m hj
      exact ⟨r, h1, by rw [nw_old (rep_lt r0)]; exact h2⟩
    · rw [if_neg e] at hk
      obtain ⟨r0, h1, h2⟩ := h.rep k g2 m2 hk
      exact ⟨rep_of r0 (f.block g2 (rep_lt r0) (.inr (by rw [h2]; omega))), h1, by rw [nw_old (rep_lt r0)]; exact h2⟩

/-! The reference's. -/
/-- A Hasher of the reference at block h, its row v, that was written m. -/
def RR (B : Nat) (w : World) (h : Nat) (v : Value) (m : List UInt8) : Prop := w.heap[h]? = some (.cells #[v] 64 (0, 0)) ∧ OwnB w B v m
theorem RR.lt {B : Nat} {w : World} {h : Nat} {v : Value} {m : List UInt8} (r : RR B w h v m) : h < w.heap.size := (Array.getElem?_eq_some_iff.1 r.1).1
theorem RR.keep {B : Nat} {w w' : World} {h : Nat} {v : Value} {m : List UInt8} (r : RR B w h v m) (e : w'.heap[h]? = w.heap[h]?) (e2 : ∀ b, v.ownBlock = some b → w'.heap[b]? = w.heap[b]?) : RR B w' h v m :=
  ⟨e.trans r.1, ownsRow_keep r.2 e2⟩
def pm (e : Option (Nat × Value × List UInt8)) : Value := .pointer (e.map fun x => ⟨x.1, 0, none⟩)
structure HM (B : Nat) (T : Nat → Nat) (w : World) (mv : Value) (E : List (Option (Nat × Value × List UInt8))) : Prop where
  own : w.ownsRow B 38 1 mv E.length (E.map pm)
  tag : ∀ b, mv.ownBlock = some b → T b = 1
  rep : ∀ (j h : Nat) (v : Value) (m : List UInt8), E[j]? = some (some (h, v, m)) → RR B w h v m ∧ B ≤ h ∧ T h = 2 * j + 5 ∧ ∀ b, v.ownBlock = some b → T b = 2 * j + 5

theorem HM.keep {B : Nat} {T : Nat → Nat} {w w' : World} {lv : Value} {E : List (Option (Nat × Value × List UInt8))} {i : Nat} (h : HM B T w lv E) (f : Fr B T i w w') (hi : i % 2 = 0) : HM B (nw T w i) w' lv E := by
  refine ⟨ownsRow_keep h.own fun b hb => ?_, fun b hb => ?_, fun j g v m hj => ?_⟩
  · have l := World.ownsRow.lt h.own b hb
    exact f.block b l.2 (.inr (by rw [h.tag b hb]; omega))
  · rw [nw_old (World.ownsRow.lt h.own b hb).2]; exact h.tag b hb
  · obtain ⟨r, h1, h2, h3⟩ := h.rep j g v m hj
    exact ⟨r.keep (f.block g r.lt (.inr (by rw [h2]; omega))) fun b hb => f.block b (World.ownsRow.lt r.2 b hb).2 (.inr (by rw [h3 b hb]; omega)), h1, by rw [nw_old r.lt]; exact h2,
      fun b hb => by rw [nw_old (World.ownsRow.lt r.2 b hb).2]; exact h3 b hb⟩
theorem HM.app {B : Nat} {T : Nat → Nat} {w w' : World} {lv lv' : Value} {E : List (Option (Nat × Value × List UInt8))} (h : HM B T w lv E) (x : Option (Nat × Value × List UInt8))
    (hx : ∀ g v m, x = some (g, v, m) → RR B w g v m ∧ B ≤ g ∧ T g = 2 * E.length + 5 ∧ ∀ b, v.ownBlock = some b → T b = 2 * E.length + 5) (own' : w'.ownsRow B 38 1 lv' (E.length + 1) (E.map pm ++ [pm x])) (gr : w.grownBy w' lv.ownBlock)
    (at' : lv'.ownBlock = lv.ownBlock ∨ lv'.ownBlock = some w.heap.size) : HM B (nw T w 1) w' lv' (E ++ [x]) ∧ Fr B T 1 w w' := by
  have f : Fr B T 1 w w' := Fr.of_grown gr fun k hk => ⟨(World.ownsRow.lt h.own k hk).1, h.tag k hk⟩
  refine ⟨⟨by simpa using own', fun b hb => ?_, fun j g v m hj => ?_⟩, f⟩
  · rcases at' with e | e
    · rw [e] at hb
      rw [nw_old (World.ownsRow.lt h.own b hb).2]; exact h.tag b hb
    · rw [e] at hb; cases hb; exact nw_new (Nat.le_refl _)
  · have hR : RR B w g v m ∧ B ≤ g ∧ T g = 2 * j + 5 ∧ ∀ b, v.ownBlock = some b → T b = 2 * j + 5 := by
      by_cases hjl : j < E.length
      · rw [List.getElem?_append_left hjl] at hj
        exact h.rep j g v m hj
      · rw [List.getElem?_append_right (by omega)] at hj
        have : j = E.length := by
          have := (List.getElem?_eq_some_iff.1 hj).1
          simp at this; omega
        subst this
        simp at hj
        exact hx g v m hj
    obtain ⟨r, h1, h2, h3⟩ := hR
    exact ⟨r.keep (f.block g r.lt (.inr (by rw [h2]; omega))) fun b hb => f.block b (World.ownsRow.lt r.2 b hb).2 (.inr (by rw [h3 b hb]; omega)), h1, by rw [nw_old r.lt]; exact h2,
      fun b hb => by rw [nw_old (World.ownsRow.lt r.2 b hb).2]; exact h3 b hb⟩
theorem HM.set {B : Nat} {T : Nat → Nat} {w w' : World} {lv v v' : Value} {E : List (Option (Nat × Value × List UInt8))} {j g : Nat} {m m' : List UInt8} (h : HM B T w lv E) (hj : E[j]? = some (some (g, v, m))) (f : Fr B T (2 * j + 5) w w') (r : RR B w' g v' m')
    (at' : v'.ownBlock = v.ownBlock ∨ ∃ b, v'.ownBlock = some b ∧ w.heap.size ≤ b) :
    HM B (nw T w (2 * j + 5)) w' lv (E.set j (some (g, v', m'))) := by
  have hl := (List.getElem?_eq_some_iff.1 hj).1
  refine ⟨?_, fun b hb => ?_, fun k g2 v2 m2 hk => ?_⟩
  · rw [map_set_same pm E j (some (g, v, m)) (some (g, v', m')) hj rfl, List.length_set]
    refine ownsRow_keep h.own fun b hb => ?_
    exact f.block b (World.ownsRow.lt h.own b hb).2 (.inr (by rw [h.tag b hb]; omega))
  · rw [nw_old (World.ownsRow.lt h.own b hb).2]; exact h.tag b hb
  · rw [List.getElem?_set] at hk
    by_cases e : j = k
    · subst e
      rw [if_pos rfl, if_pos hl] at hk
      simp at hk
      obtain ⟨rfl, rfl, rfl⟩ := hk
      obtain ⟨r0, h1, h2, h3⟩ := h.rep j g v m hj
      refine ⟨r, h1, by rw [nw_old r0.lt]; exact h2, fun b hb => ?_⟩
      rcases at' with e | ⟨b', e, hb'⟩
      · rw [e] at hb
        rw [nw_old (World.ownsRow.lt r0.2 b hb).2]; exact h3 b hb
      · rw [e] at hb; cases hb; exact nw_new hb'
    · rw [if_neg e] at hk
      obtain ⟨r0, h1, h2, h3⟩ := h.rep k g2 v2 m2 hk
      exact ⟨r0.keep (f.block g2 r0.lt (.inr (by rw [h2]; omega))) fun b hb => f.block b (World.ownsRow.lt r0.2 b hb).2 (.inr (by rw [h3 b hb]; omega)), h1, by rw [nw_old r0.lt]; exact h2,
        fun b hb => by rw [nw_old (World.ownsRow.lt r0.2 b hb).2]; exact h3 b hb⟩
end Go.Proofs.YtpmdlhlojifoeaaDoor

namespace Go.Proofs.YtpmdlhlojifoeaaDoor
open Go.RowKit
set_option linter.unusedVariables false
set_option linter.unusedSimpArgs false
section
variable {P : Program}

theorem items_bs (d : Nat) (e : TypeId) (he : P.underlying e = some (.int .u8)) (a b : List UInt8) (w : World) (is : List Nat)
    (h : ∀ i ∈ is, i < a.length ∧ i < b.length) :
    (Op.eqItems (d + 1) e 1 (bs a) (bs b) is).run P w = .ok (is.all (fun i => at8 a i == at8 b i)) w := by
  have hpk : P.plainKey e = true := by simp [Program.plainKey, he]
  induction is with
  | nil => simp [Op.eqItems]
  | cons i is ih =>
    have hi := h i (by simp)
    have p1 := run_part_plain w hpk (off := i) (bs_get a i hi.1)
    have p2 := run_part_plain w hpk (off := i) (bs_get b i hi.2)
    simp only [Op.eqItems, Nat.mul_one, Sem.run_bind, p1, p2, Result.andThen_ok, run_equalIn_int w d e .u8 .u8 _ _ he, List.all_cons]
    rw [Sem.run_ite]
    cases hq : (at8 a i == at8 b i) with
    | false => simp
    | true =>
      simp only [Bool.not_true, Bool.false_eq_true, if_false, Bool.true_and]
      exact ih (fun j hj => h j (by simp [hj]))

theorem at8_ext {a b : List UInt8} (n : Nat) (ha : a.length = n) (hb : b.length = n) (h : ∀ i, i < n → at8 a i = at8 b i) : a = b := by
  apply List.ext_getElem (by omega)
  intro i h1 h2
  have := h i (by omega)
  simp only [at8, List.getD_eq_getElem?_getD, List.getElem?_eq_getElem h1, List.getElem?_eq_getElem h2, Option.getD_some] at this
  exact UInt8.toNat_inj.1 (by omega)

theorem all_eq (n : Nat) (a b : List UInt8) (ha : a.length = n) (hb : b.length = n) : (List.range n).all (fun i => at8 a i == at8 b i) = decide (a = b) := by
  rw [Bool.eq_iff_iff]
  simp only [List.all_eq_true, List.mem_range, beq_iff_eq, decide_eq_true_eq]
  exact ⟨at8_ext n ha hb, fun h i _ => by rw [h]⟩

/-- '==' of two arrays of n bytes. -/
theorem eq_bytes (d : Nat) {t e : TypeId} {n : Nat} {i : TypeInfo} (hu : P.underlying t = some (.array n e)) (hi : P.info? e = some i) (hc : P.cellsOf e = 1) (he : P.underlying e = some (.int .u8))
    (a b : List UInt8) (ha : a.length = n) (hb : b.length = n) (w : World) :
    (Op.equalIn (d + 2) t (.agg (bs a)) (.agg (bs b))).run P w = .ok (decide (a = b)) w := by
  rw [run_equalIn_array w (d + 1) (bs a) (bs b) hu hi, hc, items_bs d e he a b w _ (fun j hj => by have := List.mem_range.1 hj; omega), all_eq n a b ha hb]
end
end Go.Proofs.YtpmdlhlojifoeaaDoor

