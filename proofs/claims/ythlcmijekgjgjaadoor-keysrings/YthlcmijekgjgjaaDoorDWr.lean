import Derived.Test.YthlcmijekgjgjaaDoorDRep
import Derived.Deep.RegionWith
import Derived.Laws.CopyOwn
namespace Go.Proofs.YthlcmijekgjgjaaDoor
open Go.RowKit
set_option linter.unusedVariables false
set_option linter.unusedSimpArgs false

/-- 'mixed', its answer written out. -/
theorem mixed_lit (s : S8) (b off cap : Nat) (l : List UInt8) (w : World) (hl : l.length = 64) (hc : ∀ j, j < 64 → w.cell? ⟨b, off + j, none⟩ = some (.int .u8 (at8 l j))) (hK : KeysAt w) :
    Calls Tryd.prog 15 #[.agg #[.int .u32 (U s.a), .int .u32 (U s.b), .int .u32 (U s.c), .int .u32 (U s.d), .int .u32 (U s.e), .int .u32 (U s.f), .int .u32 (U s.g), .int .u32 (U s.h)], .slice (some ⟨b, off, none⟩) 64 cap] w fun e w' =>
      ∃ r : S8, r = s.mix l ∧ e = .returned (.agg #[.int .u32 (U r.a), .int .u32 (U r.b), .int .u32 (U r.c), .int .u32 (U r.d), .int .u32 (U r.e), .int .u32 (U r.f), .int .u32 (U r.g), .int .u32 (U r.h)]) ∧ Below w.heap.size w w' := by
  rw [lit8]
  refine (mixed_any s b off cap l w hl hc hK).mono ?_
  rintro e w' ⟨rfl, hb⟩
  exact ⟨s.mix l, rfl, rfl, hb⟩

theorem hsz5 : (Tryd.prog.info? 5).map (·.size) = some 1 := by kernel_rfl

def lenOf : Value → Nat | .slice _ n _ => n | _ => 0
/-- What holds at the loop's head. -/
def WInv (g : Nat) (m l : List UInt8) (w0 : World) (v : Value) (wr : World) : Prop :=
  ∃ (c k : Nat) (a' : Option Addr) (cap' : Nat) (bl : List UInt8), v = .slice a' (l.length - c) cap' ∧ c ≤ l.length ∧ m.length + c = 64 * k ∧ l.length - c ≤ cap' ∧
    wr.heap[g]? = some (.cells (hc (stN (m ++ l) k) bl ((m ++ l).length : Int)) 56 (0, 0)) ∧ bl.length = 64 ∧ But g w0 wr ∧ Byt wr a' (l.drop c) ∧ (∀ b off, a' = some ⟨b, off, none⟩ → b ≠ g)

/-- The eight cells of a state, as they lie. -/
theorem st_cells {w : World} {g : Nat} {s : S8} {bl : List UInt8} {n : Int} (hg : w.heap[g]? = some (.cells (hc s bl n) 56 (0, 0))) :
    (w.cell? ⟨g, 0, none⟩ = some (.int .u32 (U s.a)) ∧ w.cell? ⟨g, 1, none⟩ = some (.int .u32 (U s.b)) ∧ w.cell? ⟨g, 2, none⟩ = some (.int .u32 (U s.c)) ∧ w.cell? ⟨g, 3, none⟩ = some (.int .u32 (U s.d)) ∧
    w.cell? ⟨g, 4, none⟩ = some (.int .u32 (U s.e)) ∧ w.cell? ⟨g, 5, none⟩ = some (.int .u32 (U s.f)) ∧ w.cell? ⟨g, 6, none⟩ = some (.int .u32 (U s.g)) ∧ w.cell? ⟨g, 7, none⟩ = some (.int .u32 (U s.h))) ∧
    (∀ j, w.frozen? ⟨g, j, none⟩ = false) := by
  refine ⟨⟨?_, ?_, ?_, ?_, ?_, ?_, ?_, ?_⟩, fun j => frozen_of_row w g j _ _ hg⟩
  · exact (cell_of_row w g 0 _ _ _ hg).trans (hc_state s bl n 0 (by omega))
  · exact (cell_of_row w g 1 _ _ _ hg).trans (hc_state s bl n 1 (by omega))
  · exact (cell_of_row w g 2 _ _ _ hg).trans (hc_state s bl n 2 (by omega))
  · exact (cell_of_row w g 3 _ _ _ hg).trans (hc_state s bl n 3 (by omega))
  · exact (cell_of_row w g 4 _ _ _ hg).trans (hc_state s bl n 4 (by omega))
  · exact (cell_of_row w g 5 _ _ _ hg).trans (hc_state s bl n 5 (by omega))
  · exact (cell_of_row w g 6 _ _ _ hg).trans (hc_state s bl n 6 (by omega))
  · exact (cell_of_row w g 7 _ _ _ hg).trans (hc_state s bl n 7 (by omega))

/-- Eight stores lay a new state. -/
theorem st_stores {w : World} {g : Nat} {s r : S8} {bl : List UInt8} {n : Int} (hg : w.heap[g]? = some (.cells (hc s bl n) 56 (0, 0))) :
    ((((((((w.setCell ⟨g, 0, none⟩ (.int .u32 (U r.a))).setCell ⟨g, 1, none⟩ (.int .u32 (U r.b))).setCell ⟨g, 2, none⟩ (.int .u32 (U r.c))).setCell ⟨g, 3, none⟩ (.int .u32 (U r.d))).setCell ⟨g, 4, none⟩ (.int .u32 (U r.e))).setCell ⟨g, 5, none⟩ (.int .u32 (U r.f))).setCell ⟨g, 6, none⟩ (.int .u32 (U r.g))).setCell ⟨g, 7, none⟩ (.int .u32 (U r.h))).heap[g]? = some (.cells (hc r bl n) 56 (0, 0)) := by
  rw [heap_setCell_same _ g 7 _ 56 _ (heap_setCell_same _ g 6 _ 56 _ (heap_setCell_same _ g 5 _ 56 _ (heap_setCell_same _ g 4 _ 56 _ (heap_setCell_same _ g 3 _ 56 _ (heap_setCell_same _ g 2 _ 56 _ (heap_setCell_same _ g 1 _ 56 _ (heap_setCell_same _ g 0 _ 56 _ hg)))))))]
  simp [hc, hcl, S8.list]

def byC (x : List UInt8) : List Value := x.map (fun b => Value.int .u8 (b.toNat : Int))
theorem byC_len (x : List UInt8) : (byC x).length = x.length := by simp [byC]
theorem byC_get (x : List UInt8) (j : Nat) (v : Value) (h : (byC x)[j]? = some v) : j < x.length ∧ v = .int .u8 (at8 x j) := by
  have hj : j < x.length := by have := (List.getElem?_eq_some_iff.1 h).1; simpa [byC] using this
  refine ⟨hj, ?_⟩
  simp [byC, List.getElem?_eq_getElem hj] at h
  simp [at8, List.getElem?_eq_getElem hj, h]
theorem byC_one (x : List UInt8) : ∀ v ∈ byC x, v.oneCell' = true := by
  intro v hv
  simp [byC] at hv
  obtain ⟨b, _, rfl⟩ := hv
  rfl
theorem hc_splice (s : S8) (bl : List UInt8) (n : Int) (o : Nat) (x : List UInt8) (h : bl.length = 64) (ho : o + x.length ≤ 64) :
    ((hc s bl n).toList.take (8 + o) ++ (byC x ++ (hc s bl n).toList.drop (8 + o + (byC x).length))).toArray = hc s (bl.take o ++ (x ++ bl.drop (o + x.length))) n := by
  have e1 : (hc s bl n).toList = s.list.map (fun x => Value.int .u32 (U x)) ++ (byC bl ++ [.int .i64 n]) := rfl
  have l8 : (s.list.map (fun x => Value.int .u32 (U x))).length = 8 := by simp [S8.list]
  have lb : (byC bl).length = 64 := by rw [byC_len, h]
  rw [e1, byC_len, List.take_append, List.take_of_length_le (by omega), l8, show 8 + o - 8 = o by omega, List.take_append_of_le_length (by omega),
    List.drop_append, List.drop_eq_nil_of_le (by omega), l8, show 8 + o + x.length - 8 = o + x.length by omega, List.drop_append_of_le_length (by omega)]
  simp [hc, hcl, byC, List.map_take, List.map_drop]

/-- The round hands its relation on. -/
theorem winv_step {g : Nat} {m l : List UInt8} {w wr w1 : World} {c k cap' b' off' : Nat} {bl' : List UInt8} {s r : S8} (hc1 : c ≤ l.length) (hck : m.length + c = 64 * k) (hcp : l.length - c ≤ cap') (h64 : 64 ≤ l.length - c)
    (hbl' : bl'.length = 64) (hbut : But g w wr) (hcell : ∀ j, j < (l.drop c).length → wr.cell? ⟨b', off' + j, none⟩ = some (.int .u8 (at8 (l.drop c) j))) (hnb : b' ≠ g)
    (hb1 : Below wr.heap.size wr w1) (hg1 : w1.heap[g]? = some (.cells (hc s bl' ((m ++ l).length : Int)) 56 (0, 0))) (hr : r = stN (m ++ l) (k + 1)) :
    WInv g m l w (.slice (if cap' = 64 then some ⟨b', off', none⟩ else some ⟨b', off' + 64, none⟩) (l.length - c - 64) (cap' - 64))
      ((((((((w1.setCell ⟨g, 0, none⟩ (.int .u32 (U r.a))).setCell ⟨g, 1, none⟩ (.int .u32 (U r.b))).setCell ⟨g, 2, none⟩ (.int .u32 (U r.c))).setCell ⟨g, 3, none⟩ (.int .u32 (U r.d))).setCell ⟨g, 4, none⟩ (.int .u32 (U r.e))).setCell ⟨g, 5, none⟩ (.int .u32 (U r.f))).setCell ⟨g, 6, none⟩ (.int .u32 (U r.g))).setCell ⟨g, 7, none⟩ (.int .u32 (U r.h))) := by
  have hlt : b' < wr.heap.size := block_lt_of_cell (hcell 0 (by simp; omega))
  have hbB : But g wr ((((((((w1.setCell ⟨g, 0, none⟩ (.int .u32 (U r.a))).setCell ⟨g, 1, none⟩ (.int .u32 (U r.b))).setCell ⟨g, 2, none⟩ (.int .u32 (U r.c))).setCell ⟨g, 3, none⟩ (.int .u32 (U r.d))).setCell ⟨g, 4, none⟩ (.int .u32 (U r.e))).setCell ⟨g, 5, none⟩ (.int .u32 (U r.f))).setCell ⟨g, 6, none⟩ (.int .u32 (U r.g))).setCell ⟨g, 7, none⟩ (.int .u32 (U r.h))) :=
    ((((((((But.of_below hb1).setCell 0 _).setCell 1 _).setCell 2 _).setCell 3 _).setCell 4 _).setCell 5 _).setCell 6 _).setCell 7 _
  have hst := st_stores (r := r) hg1
  generalize ((((((((w1.setCell ⟨g, 0, none⟩ (.int .u32 (U r.a))).setCell ⟨g, 1, none⟩ (.int .u32 (U r.b))).setCell ⟨g, 2, none⟩ (.int .u32 (U r.c))).setCell ⟨g, 3, none⟩ (.int .u32 (U r.d))).setCell ⟨g, 4, none⟩ (.int .u32 (U r.e))).setCell ⟨g, 5, none⟩ (.int .u32 (U r.f))).setCell ⟨g, 6, none⟩ (.int .u32 (U r.g))).setCell ⟨g, 7, none⟩ (.int .u32 (U r.h))) = W at hbB hst ⊢
  have e0 : l.length - c - 64 = l.length - (c + 64) := by omega
  rw [e0]
  refine ⟨c + 64, k + 1, _, _, bl', rfl, by omega, by omega, by omega, by rw [hst, hr], hbl', hbut.trans hbB, ?_, ?_⟩
  · by_cases hcap : cap' = 64
    · left
      apply List.drop_eq_nil_of_le
      omega
    · right
      rw [if_neg hcap]
      refine ⟨b', off' + 64, rfl, fun j hj => ?_⟩
      have := Byt.drop hcell 64 j (by simpa [List.drop_drop] using hj)
      rw [List.drop_drop] at this
      exact (hbB.cell (p := ⟨b', off' + 64 + j, none⟩) hlt hnb).trans this
  · intro b off e
    by_cases hcap : cap' = 64
    · rw [if_pos hcap] at e; cases e; exact hnb
    · rw [if_neg hcap] at e; cases e; exact hnb

/-- The end: what is left lies in the block. -/
theorem rep_end {g : Nat} {m l : List UInt8} {W : World} {c k : Nat} {bl' : List UInt8} (hc1 : c ≤ l.length) (hck : m.length + c = 64 * k) (h64 : l.length - c < 64) (hbl' : bl'.length = 64)
    (hg : W.heap[g]? = some (.cells (hc (stN (m ++ l) k) (l.drop c ++ bl'.drop (l.length - c)) ((m ++ l).length : Int)) 56 (0, 0))) : Rep W g (m ++ l) := by
  have hl : (m ++ l).length = m.length + l.length := by simp
  have e1 : (m ++ l).length / 64 = k := by omega
  have e2 : (m ++ l).length % 64 = l.length - c := by omega
  refine ⟨_, by rw [e1]; exact hg, by simp [hbl']; omega, ?_⟩
  have hd : (m ++ l).drop (64 * k) = l.drop c := by
    rw [List.drop_append, List.drop_eq_nil_of_le (show m.length ≤ 64 * k by omega), List.nil_append]
    congr 1
    omega
  rw [e1, e2, hd, List.take_append_of_le_length (by simp), List.take_of_length_le (by simp)]
theorem below_of_drew {B : Nat} {w w1 : World} (h : Below B w.drew w1) : Below B w w1 := ⟨h.os, h.tape, h.output, h.size, h.block⟩

theorem winv_start {g : Nat} {m l : List UInt8} {w : World} {a : Option Addr} {cap : Nat} {bl : List UInt8} (hg : w.heap[g]? = some (.cells (hc (stN m (m.length / 64)) bl (m.length : Int)) 56 (0, 0))) (hbl : bl.length = 64)
    (hb : Byt w a l) (hbg : ∀ b off, a = some ⟨b, off, none⟩ → b ≠ g) (hcap : l.length ≤ cap) (hu : m.length % 64 = 0) :
    WInv g m l w (.slice a l.length cap) (w.setCell ⟨g, 72, none⟩ (.int .i64 ((m.length : Int) + (l.length : Int)))) := by
  refine ⟨0, m.length / 64, a, cap, bl, rfl, by omega, by omega, by omega, ?_, hbl, (But.refl _ _).setCell 72 _, ?_, hbg⟩
  · rw [heap_setCell_same w g 72 _ 56 _ hg, hc_setLen _ _ _ _ hbl, stN_app m l _ (by omega)]
    simp
  · exact ((But.refl g w).setCell 72 _).byt (by simpa using hb) hbg

set_option maxRecDepth 100000 in
set_option maxHeartbeats 4000000 in
theorem write_u0 (g : Nat) (m l : List UInt8) (a : Option Addr) (cap : Nat) (w : World) (hr : Rep w g m) (hb : Byt w a l) (hbg : ∀ b off, a = some ⟨b, off, none⟩ → b ≠ g) (hK : KeysAt w) (hg4 : g ≠ 3)
    (hm : m.length ≤ 1152921504606846976) (hl : l.length ≤ 1152921504606846976) (hcap : l.length ≤ cap) (hu : m.length % 64 = 0) :
    Calls Tryd.prog 12 #[.pointer (some ⟨g, 0, none⟩), .slice a l.length cap] w fun e w' => e = .returned (.tuple #[]) ∧ Rep w' g (m ++ l) ∧ But g w w' := by
  obtain ⟨bl, hg, hbl, htk⟩ := hr
  have q72 := (cell_of_row w g 72 _ _ _ hg).trans (hc_len _ bl _ hbl)
  have f72 := frozen_of_row w g 72 _ _ hg
  have hu' : ((m.length : Int) % 64 == 0) = true := by simp; omega
  have hu2 : (m.length : Int) % 64 = 0 := by omega
  go_enter Tryd.func12, Tryd.ntmps12
  go_wp2
  clear hu' hu2
  go_loopw [1] (fun v wr => WInv g m l w v wr) (fun v _ => lenOf v)
  case atStart => exact winv_start hg hbl hb hbg hcap hu
  case round =>
    obtain ⟨c, k, a', cap', bl', rfl, hc1, hck, hcp, hgr, hbl', hbut, hby, hne⟩ := hrel
    by_cases h64 : 64 ≤ l.length - c
    · rcases hby with h0 | ⟨b', off', rfl, hcell⟩
      · have := congrArg List.length h0
        simp at this
        omega
      · have hnb := hne b' off' rfl
        obtain ⟨⟨y0, y1, y2, y3, y4, y5, y6, y7⟩, yf⟩ := st_cells hgr
        have hKr := hbut.keys hK hg4
        have hlt : g < wr.heap.size := (Array.getElem?_eq_some_iff.1 hgr).1
        have H : Hid (∀ cp wx, wx.heap = wr.heap → Calls Tryd.prog 15 #[.agg #[.int .u32 (U (stN (m ++ l) k).a), .int .u32 (U (stN (m ++ l) k).b), .int .u32 (U (stN (m ++ l) k).c), .int .u32 (U (stN (m ++ l) k).d), .int .u32 (U (stN (m ++ l) k).e), .int .u32 (U (stN (m ++ l) k).f), .int .u32 (U (stN (m ++ l) k).g), .int .u32 (U (stN (m ++ l) k).h)], .slice (some ⟨b', off', none⟩) 64 cp] wx fun e w' =>
            ∃ r : S8, r = stN (m ++ l) (k + 1) ∧ e = .returned (.agg #[.int .u32 (U r.a), .int .u32 (U r.b), .int .u32 (U r.c), .int .u32 (U r.d), .int .u32 (U r.e), .int .u32 (U r.f), .int .u32 (U r.g), .int .u32 (U r.h)]) ∧ Below wx.heap.size wx w') := fun cp wx hx => by
          have hblk : (m ++ l).drop (64 * k) = l.drop c := by rw [List.drop_append, List.drop_eq_nil_of_le (by omega), List.nil_append]; congr 1; omega
          have := mixed_lit (stN (m ++ l) k) b' off' cp ((l.drop c).take 64) wx (by simp; omega) (fun j hj => by
            have e : at8 ((l.drop c).take 64) j = at8 (l.drop c) j := by simp [at8, List.getElem?_take, hj]
            rw [e, World.cell?_of_block (w := wr) (by rw [hx])]
            exact hcell j (by simp; omega)) (fun j hj => by rw [World.cell?_of_block (w := wr) (by rw [hx])]; exact hKr j hj)
          rw [← hblk] at this
          exact this
        generalize stN (m ++ l) k = s at *
        go_wp2
        go_region_with (go_at_call 15; refine (H.out _ _ ?_).mono ?_; rfl; rintro e w1 ⟨r, hr, rfl, hb1⟩; have HR : Hid (r = stN (m ++ l) (k + 1)) := hr; clear hr; have hg1 : w1.heap[g]? = some (.cells (hc s bl' ((m ++ l).length : Int)) 56 (0, 0)) := (hb1.block g hlt).trans hgr; obtain ⟨⟨z0, z1, z2, z3, z4, z5, z6, z7⟩, zf⟩ := st_cells hg1)
        clear y0 y1 y2 y3 y4 y5 y6 y7 yf z0 z1 z2 z3 z4 z5 z6 z7 zf
        go_wp2
        all_goals exact ⟨winv_step hc1 hck hcp h64 hbl' hbut hcell hnb (below_of_drew hb1) hg1 HR.out, by simp [lenOf]; omega⟩
    · have HE := fun (W : World) (h : W.heap[g]? = _) => rep_end (W := W) hc1 hck (by omega) hbl' h
      have HEE : Hid (∀ W : World, W.heap[g]? = some (.cells (hc (stN (m ++ l) k) (l.drop c ++ bl'.drop (l.length - c)) ((m ++ l).length : Int)) 56 (0, 0)) → Rep W g (m ++ l)) := HE
      clear HE
      by_cases h0 : l.length - c = 0
      · have hlc : l.drop c = [] := List.drop_eq_nil_of_le (by omega)
        have hgr2 : wr.heap[g]? = some (.cells (hc (stN (m ++ l) k) (l.drop c ++ bl'.drop (l.length - c)) ((m ++ l).length : Int)) 56 (0, 0)) := by rw [hlc, h0]; simpa using hgr
        have R := HEE.out wr hgr2
        clear hgr2 hlc HEE hgr
        have hmin : Nat.min (l.length - c) 64 = 0 := by rw [h0]; rfl
        have h0' : l.length ≤ c := by omega
        have HM : Hid (Nat.min (l.length - c) 64 = 0) := hmin
        clear h0 hmin
        go_wp2_with (refine wpList_copy_nothing rfl (.tmp 68) (.tmp 69) 45 45 rfl 5 Tryd.underlying45 hsz5 _ _ 64 64 (l.length - c) cap' rfl rfl HM.out ?_)
        go_end0
        exact ⟨rfl, R, hbut⟩
      · rcases hby with h1 | ⟨b', off', rfl, hcell⟩
        · have := congrArg List.length h1
          simp at this
          omega
        · have hlen : (byC (l.drop c)).length = Nat.min (l.length - c) 64 := by rw [byC_len, List.length_drop]; exact (Nat.min_eq_left (by omega)).symm
          have hsp := hc_splice (stN (m ++ l) k) bl' ((m ++ l).length : Int) 0 (l.drop c) hbl' (by simp; omega)
          simp only [List.take_zero, List.nil_append, Nat.zero_add, Nat.add_zero, List.length_drop] at hsp
          have R := HEE.out (wr.setRow g (hc (stN (m ++ l) k) (l.drop c ++ bl'.drop (l.length - c)) ((m ++ l).length : Int))) (setRow_heap _ _ _ _ _ _ hgr)
          rw [← hsp] at R
          have RR := And.intro R (hbut.setRow (g := g) (((hc (stN (m ++ l) k) bl' ((m ++ l).length : Int)).toList.take 8 ++ (byC (l.drop c) ++ (hc (stN (m ++ l) k) bl' ((m ++ l).length : Int)).toList.drop (8 + (byC (l.drop c)).length))).toArray))
          have RH : Hid (_ ∧ _) := RR
          clear RR R hsp HEE
          have hsrc : Hid (∀ j v, (byC (l.drop c))[j]? = some v → wr.cell? ((⟨b', off', none⟩ : Addr).add j) = some v) := fun j v hj => by
            obtain ⟨h1, rfl⟩ := byC_get _ j v hj
            rw [Addr.add_mid]
            exact hcell j h1
          have hfit : Hid (8 + (byC (l.drop c)).length ≤ (hc (stN (m ++ l) k) bl' ((m ++ l).length : Int)).size) := by
            show _ ≤ _
            rw [hc_size _ _ _ hbl', byC_len]; simp; omega
          have HL : Hid ((byC (l.drop c)).length = Nat.min (l.length - c) 64) := hlen
          clear hlen
          go_wp2_with (refine wpList_copy_own rfl (.tmp 68) (.tmp 69) 45 45 rfl 5 Tryd.underlying45 hsz5 g 8 64 64 ⟨b', off', none⟩ (l.length - c) cap' rfl rfl (hc (stN (m ++ l) k) bl' ((m ++ l).length : Int)) 56 hgr (byC (l.drop c)) HL.out hsrc.out hfit.out (byC_one _) ?_)
          go_end0
          rw [show ((m.length : Int) + (l.length : Int)) = (((m ++ l).length : Nat) : Int) by simp]
          exact ⟨rfl, RH.out.1, RH.out.2⟩
end Go.Proofs.YthlcmijekgjgjaaDoor
