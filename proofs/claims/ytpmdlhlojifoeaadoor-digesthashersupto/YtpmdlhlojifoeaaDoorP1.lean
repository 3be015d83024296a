import Derived.Test.YtpmdlhlojifoeaaDoorP0
import Derived.Deep.RegionWith
import Derived.Laws.CopyOwn
import Derived.Test.YtpmdlhlojifoeaaDoorRows
import Derived.WalkLawsBesides
import Derived.WalkSpells
import Derived.Deep.OwnRows
import Derived.Deep.QuietTactic
import Derived.BigQuiet
import Derived.Lib.SlBytesConst
namespace Go.Proofs.YtpmdlhlojifoeaaDoor
open Go.RowKit
set_option linter.unusedVariables false
set_option linter.unusedSimpArgs false

/-- 'mixed', its answer written out. -/
theorem mixed_lit (s : S8) (b off cap : Nat) (l : List UInt8) (w : World) (hl : l.length = 64) (hc : ∀ j, j < 64 → w.cell? ⟨b, off + j, none⟩ = some (.int .u8 (at8 l j))) (hK : KeysAt w) :
    Calls Tryd.prog 35 #[.agg #[.int .u32 (U s.a), .int .u32 (U s.b), .int .u32 (U s.c), .int .u32 (U s.d), .int .u32 (U s.e), .int .u32 (U s.f), .int .u32 (U s.g), .int .u32 (U s.h)], .slice (some ⟨b, off, none⟩) 64 cap] w fun e w' =>
      ∃ r : S8, r = s.mix l ∧ e = .returned (.agg #[.int .u32 (U r.a), .int .u32 (U r.b), .int .u32 (U r.c), .int .u32 (U r.d), .int .u32 (U r.e), .int .u32 (U r.f), .int .u32 (U r.g), .int .u32 (U r.h)]) ∧ Below w.heap.size w w' := by
  rw [lit8]
  refine (mixed_any s b off cap l w hl hc hK).mono ?_
  rintro e w' ⟨rfl, hb⟩
  exact ⟨s.mix l, rfl, rfl, hb⟩

theorem hsz5 : (Tryd.prog.info? 5).map (·.size) = some 1 := by kernel_rfl

def lenOf : Value → Nat | .slice _ n _ => n | _ => 0
/-- What holds at the loop's head. -/
def WInv (g : Nat) (m l : List UInt8) (w0 : World) (v : Value) (wr : World) : Prop :=
  ∃ (c k : Nat) (a' : Option Addr) (cap' : Nat) (bl : List UInt8), v = .slice a' (l.length - c) cap' ∧ c ≤ l.length ∧ m.length + c = 64 * k ∧ l.length - c ≤ cap' ∧
    wr.heap[g]? = some (.cells (hc (stN (m ++ l) k) bl ((m ++ l).length : Int)) 62 (0, 0)) ∧ bl.length = 64 ∧ But g w0 wr ∧ Byt wr a' (l.drop c) ∧ (∀ b off, a' = some ⟨b, off, none⟩ → b ≠ g)

/-- The eight cells of a state, as they lie. -/
theorem st_cells {w : World} {g : Nat} {s : S8} {bl : List UInt8} {n : Int} (hg : w.heap[g]? = some (.cells (hc s bl n) 62 (0, 0))) :
    (w.cell? ⟨g, 0, none⟩ = some (.int .u32 (U s.a)) ∧ w.cell? ⟨g, 1, none⟩ = some (.int .u32 (U s.b)) ∧ w.cell? ⟨g, 2, none⟩ = some (.int .u32 (U s.c)) ∧ w.cell? ⟨g, 3, none⟩ = some (.int .u32 (U s.d)) ∧
    w.cell? ⟨g, 4, none⟩ = some (.int .u32 (U s.e)) ∧ w.cell? ⟨g, 5, none⟩ = some (.int .u32 (U s.f)) ∧ w.cell? ⟨g, 6, none⟩ = some (.int .u32 (U s.g)) ∧ w.cell? ⟨g, 7, none⟩ = some (.int .u32 (U s.h))) ∧
    (∀ j, w.frozen? ⟨g, j, none⟩ = false) := by
  refine ⟨⟨?_, ?_, ?_, ?_, ?_, ?_, ?_, ?_⟩, fun j => frozen_of_row w g j _ _ hg⟩
  · exact (cell_of_row w g 0 _ _ _ hg).trans (hc_state s bl n 0 (by omega))
  · exact (cell_of_row w g 1 _ _ _ hg).trans (hc_state s bl n 1 (by omega))
  · exact (cell_of_row w g 2 _ _ _ hg).trans (hc_state s bl n 2 (by omega))
  · exact (cell_of_row w g 3 _ _ _ hg).trans (hc_state s bl n 3 (by omega))
  · exact (cell_of_row w g 4 _ _ _ hg).trans (hc_state s bl n 4 (by omega))
  · exact (cell_of_row w g 5 _ _ _ hg).trans (hc_state s bl n 5 (by omega))
  · exact (cell_of_row w g 6 _ _ _ hg).trans (hc_state s bl n 6 (by omega))
  · exact (cell_of_row w g 7 _ _ _ hg).trans (hc_state s bl n 7 (by omega))

/-- Eight stores lay a new state. -/
theorem st_stores {w : World} {g : Nat} {s r : S8} {bl : List UInt8} {n : Int} (hg : w.heap[g]? = some (.cells (hc s bl n) 62 (0, 0))) :
    ((((((((w.setCell ⟨g, 0, none⟩ (.int .u32 (U r.a))).setCell ⟨g, 1, none⟩ (.int .u32 (U r.b))).setCell ⟨g, 2, none⟩ (.int .u32 (U r.c))).setCell ⟨g, 3, none⟩ (.int .u32 (U r.d))).setCell ⟨g, 4, none⟩ (.int .u32 (U r.e))).setCell ⟨g, 5, none⟩ (.int .u32 (U r.f))).setCell ⟨g, 6, none⟩ (.int .u32 (U r.g))).setCell ⟨g, 7, none⟩ (.int .u32 (U r.h))).heap[g]? = some (.cells (hc r bl n) 62 (0, 0)) := by
  rw [heap_setCell_same _ g 7 _ 62 _ (heap_setCell_same _ g 6 _ 62 _ (heap_setCell_same _ g 5 _ 62 _ (heap_setCell_same _ g 4 _ 62 _ (heap_setCell_same _ g 3 _ 62 _ (heap_setCell_same _ g 2 _ 62 _ (heap_setCell_same _ g 1 _ 62 _ (heap_setCell_same _ g 0 _ 62 _ hg)))))))]
  simp [hc, hcl, S8.list]

def byC (x : List UInt8) : List Value := x.map (fun b => Value.int .u8 (b.toNat : Int))
theorem byC_len (x : List UInt8) : (byC x).length = x.length := by simp [byC]
theorem byC_get (x : List UInt8) (j : Nat) (v : Value) (h : (byC x)[j]? = some v) : j < x.length ∧ v = .int .u8 (at8 x j) := by
  have hj : j < x.length := by have := (List.getElem?_eq_some_iff.1 h).1; simpa [byC] using this
  refine ⟨hj, ?_⟩
  simp [byC, List.getElem?_eq_getElem hj] at h
  simp [at8, List.getElem?_eq_getElem hj, h]
theorem byC_one (x : List UInt8) : ∀ v ∈ byC x, v.oneCell' = true := by
  intro v hv
  simp [byC] at hv
  obtain ⟨b, _, rfl⟩ := hv
  rfl
theorem hc_splice (s : S8) (bl : List UInt8) (n : Int) (o : Nat) (x : List UInt8) (h : bl.length = 64) (ho : o + x.length ≤ 64) :
    ((hc s bl n).toList.take (8 + o) ++ (byC x ++ (hc s bl n).toList.drop (8 + o + (byC x).length))).toArray = hc s (bl.take o ++ (x ++ bl.drop (o + x.length))) n := by
  have e1 : (hc s bl n).toList = s.list.map (fun x => Value.int .u32 (U x)) ++ (byC bl ++ [.int .i64 n]) := rfl
  have l8 : (s.list.map (fun x => Value.int .u32 (U x))).length = 8 := by simp [S8.list]
  have lb : (byC bl).length = 64 := by rw [byC_len, h]
  rw [e1, byC_len, List.take_append, List.take_of_length_le (by omega), l8, show 8 + o - 8 = o by omega, List.take_append_of_le_length (by omega),
    List.drop_append, List.drop_eq_nil_of_le (by omega), l8, show 8 + o + x.length - 8 = o + x.length by omega, List.drop_append_of_le_length (by omega)]
  simp [hc, hcl, byC, List.map_take, List.map_drop]

/-- The round hands its relation on. -/
theorem winv_step {g : Nat} {m l : List UInt8} {w wr w1 : World} {c k cap' b' off' : Nat} {bl' : List UInt8} {s r : S8} (hc1 : c ≤ l.length) (hck : m.length + c = 64 * k) (hcp : l.length - c ≤ cap') (h64 : 64 ≤ l.length - c)
    (hbl' : bl'.length = 64) (hbut : But g w wr) (hcell : ∀ j, j < (l.drop c).length → wr.cell? ⟨b', off' + j, none⟩ = some (.int .u8 (at8 (l.drop c) j))) (hnb : b' ≠ g)
    (hb1 : Below wr.heap.size wr w1) (hg1 : w1.heap[g]? = some (.cells (hc s bl' ((m ++ l).length : Int)) 62 (0, 0))) (hr : r = stN (m ++ l) (k + 1)) :
    WInv g m l w (.slice (if cap' = 64 then some ⟨b', off', none⟩ else some ⟨b', off' + 64, none⟩) (l.length - c - 64) (cap' - 64))
      ((((((((w1.setCell ⟨g, 0, none⟩ (.int .u32 (U r.a))).setCell ⟨g, 1, none⟩ (.int .u32 (U r.b))).setCell ⟨g, 2, none⟩ (.int .u32 (U r.c))).setCell ⟨g, 3, none⟩ (.int .u32 (U r.d))).setCell ⟨g, 4, none⟩ (.int .u32 (U r.e))).setCell ⟨g, 5, none⟩ (.int .u32 (U r.f))).setCell ⟨g, 6, none⟩ (.int .u32 (U r.g))).setCell ⟨g, 7, none⟩ (.int .u32 (U r.h))) := by
  have hlt : b' < wr.heap.size := block_lt_of_cell (hcell 0 (by simp; omega))
  have hbB : But g wr ((((((((w1.setCell ⟨g, 0, none⟩ (.int .u32 (U r.a))).setCell ⟨g, 1, none⟩ (.int .u32 (U r.b))).setCell ⟨g, 2, none⟩ (.int .u32 (U r.c))).setCell ⟨g, 3, none⟩ (.int .u32 (U r.d))).setCell ⟨g, 4, none⟩ (.int .u32 (U r.e))).setCell ⟨g, 5, none⟩ (.int .u32 (U r.f))).setCell ⟨g, 6, none⟩ (.int .u32 (U r.g))).setCell ⟨g, 7, none⟩ (.int .u32 (U r.h))) :=
    ((((((((But.of_below hb1).setCell 0 _).setCell 1 _).setCell 2 _).setCell 3 _).setCell 4 _).setCell 5 _).setCell 6 _).setCell 7 _
  have hst := st_stores (r := r) hg1
  generalize ((((((((w1.setCell ⟨g, 0, none⟩ (.int .u32 (U r.a))).setCell ⟨g, 1, none⟩ (.int .u32 (U r.b))).setCell ⟨g, 2, none⟩ (.int .u32 (U r.c))).setCell ⟨g, 3, none⟩ (.int .u32 (U r.d))).setCell ⟨g, 4, none⟩ (.int .u32 (U r.e))).setCell ⟨g, 5, none⟩ (.int .u32 (U r.f))).setCell ⟨g, 6, none⟩ (.int .u32 (U r.g))).setCell ⟨g, 7, none⟩ (.int .u32 (U r.h))) = W at hbB hst ⊢
  have e0 : l.length - c - 64 = l.length - (c + 64) := by omega
  rw [e0]
  refine ⟨c + 64, k + 1, _, _, bl', rfl, by omega, by omega, by omega, by rw [hst, hr], hbl', hbut.trans hbB, ?_, ?_⟩
  · by_cases hcap : cap' = 64
    · left
      apply List.drop_eq_nil_of_le
      omega
    · right
      rw [if_neg hcap]
      refine ⟨b', off' + 64, rfl, fun j hj => ?_⟩
      have := Byt.drop hcell 64 j (by simpa [List.drop_drop] using hj)
      rw [List.drop_drop] at this
      exact (hbB.cell (p := ⟨b', off' + 64 + j, none⟩) hlt hnb).trans this
  · intro b off e
    by_cases hcap : cap' = 64
    · rw [if_pos hcap] at e; cases e; exact hnb
    · rw [if_neg hcap] at e; cases e; exact hnb

/-- The end: what is left lies in the block. -/
theorem rep_end {g : Nat} {m l : List UInt8} {W : World} {c k : Nat} {bl' : List UInt8} (hc1 : c ≤ l.length) (hck : m.length + c = 64 * k) (h64 : l.length - c < 64) (hbl' : bl'.length = 64)
    (hg : W.heap[g]? = some (.cells (hc (stN (m ++ l) k) (l.drop c ++ bl'.drop (l.length - c)) ((m ++ l).length : Int)) 62 (0, 0))) : Rep W g (m ++ l) := by
  have hl : (m ++ l).length = m.length + l.length := by simp
  have e1 : (m ++ l).length / 64 = k := by omega
  have e2 : (m ++ l).length % 64 = l.length - c := by omega
  refine ⟨_, by rw [e1]; exact hg, by simp [hbl']; omega, ?_⟩
  have hd : (m ++ l).drop (64 * k) = l.drop c := by
    rw [List.drop_append, List.drop_eq_nil_of_le (show m.length ≤ 64 * k by omega), List.nil_append]
    congr 1
    omega
  rw [e1, e2, hd, List.take_append_of_le_length (by simp), List.take_of_length_le (by simp)]
theorem below_of_drew {B : Nat} {w w1 : World} (h : Below B w.drew w1) : Below B w w1 := ⟨h.os, h.tape, h.output, h.size, h.block⟩

theorem winv_start {g : Nat} {m l : List UInt8} {w : World} {a : Option Addr} {cap : Nat} {bl : List UInt8} (hg : w.heap[g]? = some (.cells (hc (stN m (m.length / 64)) bl (m.length : Int)) 62 (0, 0))) (hbl : bl.length = 64)
    (hb : Byt w a l) (hbg : ∀ b off, a = some ⟨b, off, none⟩ → b ≠ g) (hcap : l.length ≤ cap) (hu : m.length % 64 = 0) :
    WInv g m l w (.slice a l.length cap) (w.setCell ⟨g, 72, none⟩ (.int .i64 ((m.length : Int) + (l.length : Int)))) := by
  refine ⟨0, m.length / 64, a, cap, bl, rfl, by omega, by omega, by omega, ?_, hbl, (But.refl _ _).setCell 72 _, ?_, hbg⟩
  · rw [heap_setCell_same w g 72 _ 62 _ hg, hc_setLen _ _ _ _ hbl, stN_app m l _ (by omega)]
    simp
  · exact ((But.refl g w).setCell 72 _).byt (by simpa using hb) hbg

set_option maxRecDepth 100000 in
set_option maxHeartbeats 4000000 in
theorem write_u0 (g : Nat) (m l : List UInt8) (a : Option Addr) (cap : Nat) (w : World) (hr : Rep w g m) (hb : Byt w a l) (hbg : ∀ b off, a = some ⟨b, off, none⟩ → b ≠ g) (hK : KeysAt w) (hg4 : g ≠ 4)
    (hm : m.length ≤ 1152921504606846976) (hl : l.length ≤ 1152921504606846976) (hcap : l.length ≤ cap) (hu : m.length % 64 = 0) :
    Calls Tryd.prog 21 #[.pointer (some ⟨g, 0, none⟩), .slice a l.length cap] w fun e w' => e = .returned (.tuple #[]) ∧ Rep w' g (m ++ l) ∧ But g w w' := by
  obtain ⟨bl, hg, hbl, htk⟩ := hr
  have q72 := (cell_of_row w g 72 _ _ _ hg).trans (hc_len _ bl _ hbl)
  have f72 := frozen_of_row w g 72 _ _ hg
  have hu' : ((m.length : Int) % 64 == 0) = true := by simp; omega
  have hu2 : (m.length : Int) % 64 = 0 := by omega
  go_enter Tryd.func21, Tryd.ntmps21
  go_wp2
  clear hu' hu2
  go_loopw [1] (fun v wr => WInv g m l w v wr) (fun v _ => lenOf v)
  case atStart => exact winv_start hg hbl hb hbg hcap hu
  case round =>
    obtain ⟨c, k, a', cap', bl', rfl, hc1, hck, hcp, hgr, hbl', hbut, hby, hne⟩ := hrel
    by_cases h64 : 64 ≤ l.length - c
    · rcases hby with h0 | ⟨b', off', rfl, hcell⟩
      · have := congrArg List.length h0
        simp at this
        omega
      · have hnb := hne b' off' rfl
        obtain ⟨⟨y0, y1, y2, y3, y4, y5, y6, y7⟩, yf⟩ := st_cells hgr
        have hKr := hbut.keys hK hg4
        have hlt : g < wr.heap.size := (Array.getElem?_eq_some_iff.1 hgr).1
        have H : Hid (∀ cp wx, wx.heap = wr.heap → Calls Tryd.prog 35 #[.agg #[.int .u32 (U (stN (m ++ l) k).a), .int .u32 (U (stN (m ++ l) k).b), .int .u32 (U (stN (m ++ l) k).c), .int .u32 (U (stN (m ++ l) k).d), .int .u32 (U (stN (m ++ l) k).e), .int .u32 (U (stN (m ++ l) k).f), .int .u32 (U (stN (m ++ l) k).g), .int .u32 (U (stN (m ++ l) k).h)], .slice (some ⟨b', off', none⟩) 64 cp] wx fun e w' =>
            ∃ r : S8, r = stN (m ++ l) (k + 1) ∧ e = .returned (.agg #[.int .u32 (U r.a), .int .u32 (U r.b), .int .u32 (U r.c), .int .u32 (U r.d), .int .u32 (U r.e), .int .u32 (U r.f), .int .u32 (U r.g), .int .u32 (U r.h)]) ∧ Below wx.heap.size wx w') := fun cp wx hx => by
          have hblk : (m ++ l).drop (64 * k) = l.drop c := by rw [List.drop_append, List.drop_eq_nil_of_le (by omega), List.nil_append]; congr 1; omega
          have := mixed_lit (stN (m ++ l) k) b' off' cp ((l.drop c).take 64) wx (by simp; omega) (fun j hj => by
            have e : at8 ((l.drop c).take 64) j = at8 (l.drop c) j := by simp [at8, List.getElem?_take, hj]
            rw [e, World.cell?_of_block (w := wr) (by rw [hx])]
            exact hcell j (by simp; omega)) (fun j hj => by rw [World.cell?_of_block (w := wr) (by rw [hx])]; exact hKr j hj)
          rw [← hblk] at this
          exact this
        generalize stN (m ++ l) k = s at *
        go_wp2
        go_region_with (go_at_call 35; refine (H.out _ _ ?_).mono ?_; rfl; rintro e w1 ⟨r, hr, rfl, hb1⟩; have HR : Hid (r = stN (m ++ l) (k + 1)) := hr; clear hr; have hg1 : w1.heap[g]? = some (.cells (hc s bl' ((m ++ l).length : Int)) 62 (0, 0)) := (hb1.block g hlt).trans hgr; obtain ⟨⟨z0, z1, z2, z3, z4, z5, z6, z7⟩, zf⟩ := st_cells hg1)
        clear y0 y1 y2 y3 y4 y5 y6 y7 yf z0 z1 z2 z3 z4 z5 z6 z7 zf
        go_wp2
        all_goals exact ⟨winv_step hc1 hck hcp h64 hbl' hbut hcell hnb (below_of_drew hb1) hg1 HR.out, by simp [lenOf]; omega⟩
    · have HE := fun (W : World) (h : W.heap[g]? = _) => rep_end (W := W) hc1 hck (by omega) hbl' h
      have HEE : Hid (∀ W : World, W.heap[g]? = some (.cells (hc (stN (m ++ l) k) (l.drop c ++ bl'.drop (l.length - c)) ((m ++ l).length : Int)) 62 (0, 0)) → Rep W g (m ++ l)) := HE
      clear HE
      by_cases h0 : l.length - c = 0
      · have hlc : l.drop c = [] := List.drop_eq_nil_of_le (by omega)
        have hgr2 : wr.heap[g]? = some (.cells (hc (stN (m ++ l) k) (l.drop c ++ bl'.drop (l.length - c)) ((m ++ l).length : Int)) 62 (0, 0)) := by rw [hlc, h0]; simpa using hgr
        have R := HEE.out wr hgr2
        clear hgr2 hlc HEE hgr
        have hmin : Nat.min (l.length - c) 64 = 0 := by rw [h0]; rfl
        have h0' : l.length ≤ c := by omega
        have HM : Hid (Nat.min (l.length - c) 64 = 0) := hmin
        clear h0 hmin
        go_wp2_with (refine wpList_copy_nothing rfl (.tmp 68) (.tmp 69) 26 26 rfl 5 Tryd.underlying26 hsz5 _ _ 64 64 (l.length - c) cap' rfl rfl HM.out ?_)
        go_end0
        exact ⟨rfl, R, hbut⟩
      · rcases hby with h1 | ⟨b', off', rfl, hcell⟩
        · have := congrArg List.length h1
          simp at this
          omega
        · have hlen : (byC (l.drop c)).length = Nat.min (l.length - c) 64 := by rw [byC_len, List.length_drop]; exact (Nat.min_eq_left (by omega)).symm
          have hsp := hc_splice (stN (m ++ l) k) bl' ((m ++ l).length : Int) 0 (l.drop c) hbl' (by simp; omega)
          simp only [List.take_zero, List.nil_append, Nat.zero_add, Nat.add_zero, List.length_drop] at hsp
          have R := HEE.out (wr.setRow g (hc (stN (m ++ l) k) (l.drop c ++ bl'.drop (l.length - c)) ((m ++ l).length : Int))) (setRow_heap _ _ _ _ _ _ hgr)
          rw [← hsp] at R
          have RR := And.intro R (hbut.setRow (g := g) (((hc (stN (m ++ l) k) bl' ((m ++ l).length : Int)).toList.take 8 ++ (byC (l.drop c) ++ (hc (stN (m ++ l) k) bl' ((m ++ l).length : Int)).toList.drop (8 + (byC (l.drop c)).length))).toArray))
          have RH : Hid (_ ∧ _) := RR
          clear RR R hsp HEE
          have hsrc : Hid (∀ j v, (byC (l.drop c))[j]? = some v → wr.cell? ((⟨b', off', none⟩ : Addr).add j) = some v) := fun j v hj => by
            obtain ⟨h1, rfl⟩ := byC_get _ j v hj
            rw [Addr.add_mid]
            exact hcell j h1
          have hfit : Hid (8 + (byC (l.drop c)).length ≤ (hc (stN (m ++ l) k) bl' ((m ++ l).length : Int)).size) := by
            show _ ≤ _
            rw [hc_size _ _ _ hbl', byC_len]; simp; omega
          have HL : Hid ((byC (l.drop c)).length = Nat.min (l.length - c) 64) := hlen
          clear hlen
          go_wp2_with (refine wpList_copy_own rfl (.tmp 68) (.tmp 69) 26 26 rfl 5 Tryd.underlying26 hsz5 g 8 64 64 ⟨b', off', none⟩ (l.length - c) cap' rfl rfl (hc (stN (m ++ l) k) bl' ((m ++ l).length : Int)) 62 hgr (byC (l.drop c)) HL.out hsrc.out hfit.out (byC_one _) ?_)
          go_end0
          rw [show ((m.length : Int) + (l.length : Int)) = (((m ++ l).length : Nat) : Int) by simp]
          exact ⟨rfl, RH.out.1, RH.out.2⟩
end Go.Proofs.YtpmdlhlojifoeaaDoor

namespace Go.Proofs.YtpmdlhlojifoeaaDoor
open Go.RowKit
set_option linter.unusedVariables false
set_option linter.unusedSimpArgs false

theorem rep_add {g : Nat} {m l : List UInt8} {W : World} {bl : List UInt8} (hbl : bl.length = 64) (htk : bl.take (m.length % 64) = m.drop (64 * (m.length / 64))) (hl : m.length % 64 + l.length < 64)
    (hg : W.heap[g]? = some (.cells (hc (stN m (m.length / 64)) (bl.take (m.length % 64) ++ (l ++ bl.drop (m.length % 64 + l.length))) ((m ++ l).length : Int)) 62 (0, 0))) : Rep W g (m ++ l) := by
  have hlen : (m ++ l).length = m.length + l.length := by simp
  have e1 : (m ++ l).length / 64 = m.length / 64 := by omega
  have e2 : (m ++ l).length % 64 = m.length % 64 + l.length := by omega
  refine ⟨_, by rw [e1, stN_app m l _ (by omega)]; exact hg, by simp [hbl]; omega, ?_⟩
  have e3 : (bl.take (m.length % 64)).length = m.length % 64 := by simp [hbl]; omega
  rw [e1, e2, List.drop_append_of_le_length (by omega), ← htk, List.take_append, List.take_of_length_le (by omega), e3, show m.length % 64 + l.length - m.length % 64 = l.length by omega, List.take_append_of_le_length (Nat.le_refl _), List.take_length]

theorem start_set {g : Nat} {m l : List UInt8} {w : World} {bl : List UInt8} {s : S8} (hg : w.heap[g]? = some (.cells (hc s bl (m.length : Int)) 62 (0, 0))) (hbl : bl.length = 64) :
    (w.setCell ⟨g, 72, none⟩ (.int .i64 ((m.length : Int) + (l.length : Int)))).heap[g]? = some (.cells (hc s bl ((m ++ l).length : Int)) 62 (0, 0)) := by
  rw [heap_setCell_same w g 72 _ 62 _ hg, hc_setLen _ _ _ _ hbl]
  simp

theorem slice54 (g u : Nat) (h : 0 < u) (h2 : u < 64) (w : World) : (Instr.sliceAt 54 (.pointer (some ⟨g, 8, none⟩)) (some (.int .i64 (u : Int))) none none).run Tryd.prog w = .ok (.slice (some ⟨g, 8 + u, none⟩) (64 - u) (64 - u)) w := by
  have hi : (Tryd.prog.info? 5).map (·.size) = some 1 := hsz5
  have ha : Tryd.prog.arrayLen 54 = 64 := by kernel_rfl
  have he : Tryd.prog.elem 54 = 5 := by kernel_rfl
  rw [run_sliceAt_array_l w 54 ⟨g, 8, none⟩ (by rw [ha, he]; exact Tryd.underlying54) .i64 (u : Int) (by omega) (by rw [ha]; omega), he, ha]
  cases hq : Tryd.prog.info? 5 with
  | none => rw [hq] at hi; simp at hi
  | some i =>
    rw [hq] at hi
    simp at hi
    simp only [sizeOf, typeInfo, Sem.run_bind, hq]
    simp [hq, hi, slicedAt, Addr.add_mid, show ¬ 64 = u by omega]

set_option maxRecDepth 100000 in
set_option maxHeartbeats 4000000 in
theorem write_u1 (g : Nat) (m l : List UInt8) (a : Option Addr) (cap : Nat) (w : World) (hr : Rep w g m) (hb : Byt w a l) (hbg : ∀ b off, a = some ⟨b, off, none⟩ → b ≠ g) (hK : KeysAt w) (hg4 : g ≠ 4)
    (hm : m.length ≤ 1152921504606846976) (hl : l.length ≤ 1152921504606846976) (hcap : l.length ≤ cap) (hu : 0 < m.length % 64) (h0 : 0 < l.length) (h1 : m.length % 64 + l.length < 64) :
    Calls Tryd.prog 21 #[.pointer (some ⟨g, 0, none⟩), .slice a l.length cap] w fun e w' => e = .returned (.tuple #[]) ∧ Rep w' g (m ++ l) ∧ But g w w' := by
  obtain ⟨bl, hg, hbl, htk⟩ := hr
  have q72 := (cell_of_row w g 72 _ _ _ hg).trans (hc_len _ bl _ hbl)
  have f72 := frozen_of_row w g 72 _ _ hg
  have hgs := start_set (l := l) hg hbl
  have hb1 : But g w (w.setCell ⟨g, 72, none⟩ (.int .i64 ((m.length : Int) + (l.length : Int)))) := (But.refl _ _).setCell 72 _
  rcases hb with h | ⟨b', off', rfl, hcell⟩
  · rw [h] at h0; simp at h0
  have hnb := hbg b' off' rfl
  have hsrc : Hid (∀ j v, (byC l)[j]? = some v → (w.setCell ⟨g, 72, none⟩ (.int .i64 ((m.length : Int) + (l.length : Int)))).cell? ((⟨b', off', none⟩ : Addr).add j) = some v) := fun j v hj => by
    obtain ⟨h1, rfl⟩ := byC_get _ j v hj
    rw [Addr.add_mid, hb1.cell (p := ⟨b', off' + j, none⟩) (block_lt_of_cell (hcell j h1)) hnb]
    exact hcell j h1
  have hfit : Hid (8 + m.length % 64 + (byC l).length ≤ (hc (stN m (m.length / 64)) bl ((m ++ l).length : Int)).size) := by
    show _ ≤ _
    rw [hc_size _ _ _ hbl, byC_len]; omega
  have HL : Hid ((byC l).length = Nat.min l.length (64 - m.length % 64)) := by
    show _ = _
    rw [byC_len]; exact (Nat.min_eq_left (by omega)).symm
  have hsp := hc_splice (stN m (m.length / 64)) bl ((m ++ l).length : Int) (m.length % 64) l hbl (by omega)
  have R := rep_add (W := (w.setCell ⟨g, 72, none⟩ (.int .i64 ((m.length : Int) + (l.length : Int)))).setRow g (hc (stN m (m.length / 64)) (bl.take (m.length % 64) ++ (l ++ bl.drop (m.length % 64 + l.length))) ((m ++ l).length : Int))) hbl htk h1 (setRow_heap _ _ _ _ _ _ hgs)
  have B := hb1.setRow (hc (stN m (m.length / 64)) (bl.take (m.length % 64) ++ (l ++ bl.drop (m.length % 64 + l.length))) ((m ++ l).length : Int))
  rw [← hsp] at R B
  have RH : Hid (_ ∧ _) := And.intro R B
  have lbc := byC_len l
  have LBC : Hid ((byC l).length = l.length) := lbc
  clear R B hsp lbc htk
  obtain ⟨u, hu'⟩ : ∃ u, u = m.length % 64 := ⟨_, rfl⟩
  have eu : (m.length : Int) % 64 = (u : Int) := by omega
  rw [← hu'] at hu h1 hfit HL RH
  have hul : u < 64 := by omega
  have hsl := fun wx => slice54 g u hu hul wx
  clear hu' hgs
  have hgs := start_set (l := l) hg hbl
  go_enter Tryd.func21, Tryd.ntmps21
  go_wp2_with (refine wpList_copy_own rfl (.tmp 28) (.tmp 29) 26 26 rfl 5 Tryd.underlying26 hsz5 g (8 + u) (64 - u) (64 - u) ⟨b', off', none⟩ l.length cap rfl rfl (hc (stN m (m.length / 64)) bl ((m ++ l).length : Int)) 62 hgs (byC l) HL.out hsrc.out hfit.out (byC_one _) ?_; rw [LBC.out])
  have RF := RH.out
  rw [LBC.out] at RF
  have ec : ((m.length : Int) + (l.length : Int)) = (((m ++ l).length : Nat) : Int) := by simp
  rw [ec] at RF ⊢
  exact bodyPost_ret (v := .tuple #[]) (by simp [results, Tryd.results21]) rfl ⟨rfl, RF.1, RF.2⟩

set_option maxRecDepth 100000 in
set_option maxHeartbeats 4000000 in
theorem write_u1e (g : Nat) (m : List UInt8) (a : Option Addr) (cap : Nat) (w : World) (hr : Rep w g m) (hm : m.length ≤ 1152921504606846976) (hu : 0 < m.length % 64) :
    Calls Tryd.prog 21 #[.pointer (some ⟨g, 0, none⟩), .slice a 0 cap] w fun e w' => e = .returned (.tuple #[]) ∧ Rep w' g (m ++ []) ∧ But g w w' := by
  obtain ⟨bl, hg, hbl, htk⟩ := hr
  have q72 := (cell_of_row w g 72 _ _ _ hg).trans (hc_len _ bl _ hbl)
  have f72 := frozen_of_row w g 72 _ _ hg
  have R : Rep (w.setCell ⟨g, 72, none⟩ (.int .i64 (m.length : Int))) g (m ++ []) := by
    rw [List.append_nil]
    exact ⟨bl, by rw [heap_setCell_same w g 72 _ 62 _ hg, hc_setLen _ _ _ _ hbl], hbl, htk⟩
  have B : But g w (w.setCell ⟨g, 72, none⟩ (.int .i64 (m.length : Int))) := (But.refl _ _).setCell 72 _
  have RH : Hid (_ ∧ _) := And.intro R B
  clear R B
  obtain ⟨u, hu'⟩ : ∃ u, u = m.length % 64 := ⟨_, rfl⟩
  have eu : (m.length : Int) % 64 = (u : Int) := by omega
  rw [← hu'] at hu
  have hul : u < 64 := by omega
  have hsl := fun wx => slice54 g u hu hul wx
  clear hu'
  have HM : Hid (Nat.min 0 (64 - u) = 0) := Nat.zero_min _
  go_enter Tryd.func21, Tryd.ntmps21
  go_wp2_with (refine wpList_copy_nothing rfl (.tmp 28) (.tmp 29) 26 26 rfl 5 Tryd.underlying26 hsz5 _ _ (64 - u) (64 - u) 0 cap rfl rfl HM.out ?_)
  have RF := RH.out
  exact bodyPost_ret (v := .tuple #[]) (by simp [results, Tryd.results21]) rfl ⟨rfl, RF.1, RF.2⟩
end Go.Proofs.YtpmdlhlojifoeaaDoor

namespace Go.Proofs.YtpmdlhlojifoeaaDoor
open Go.RowKit
set_option linter.unusedVariables false
set_option linter.unusedSimpArgs false

/-- The block that is full now. -/
theorem full_block (m l : List UInt8) (bl : List UInt8) (hbl : bl.length = 64) (htk : bl.take (m.length % 64) = m.drop (64 * (m.length / 64))) (h1 : 64 ≤ m.length % 64 + l.length) :
    bl.take (m.length % 64) ++ (l.take (64 - m.length % 64) ++ bl.drop (m.length % 64 + (l.take (64 - m.length % 64)).length)) = ((m ++ l).drop (64 * (m.length / 64))).take 64 := by
  have e1 : (l.take (64 - m.length % 64)).length = 64 - m.length % 64 := by simp; omega
  have e3 : (bl.take (m.length % 64)).length = m.length % 64 := by simp [hbl]; omega
  have hd : (m ++ l).drop (64 * (m.length / 64)) = bl.take (m.length % 64) ++ l := by rw [List.drop_append_of_le_length (by omega), htk]
  rw [hd, List.take_append, e3, List.take_of_length_le (l := bl.take (m.length % 64)) (by omega), e1, List.drop_eq_nil_of_le (by omega), List.append_nil]

theorem winv_fill {g : Nat} {m l : List UInt8} {w W2 w1 : World} {u b' off' : Nat} {blk : List UInt8} {s r : S8} {nn : Int} (hu : u = m.length % 64) (hu0 : 0 < u) (h1 : 64 ≤ u + l.length) (hblk : blk.length = 64)
    (hbut : But g w W2) (hcell : ∀ j, j < l.length → w.cell? ⟨b', off' + j, none⟩ = some (.int .u8 (at8 l j))) (hnb : b' ≠ g)
    (hb1 : Below W2.heap.size W2 w1) (hg1 : w1.heap[g]? = some (.cells (hc s blk nn) 62 (0, 0))) (hnn : nn = (((m ++ l).length : Nat) : Int)) (hr : r = stN (m ++ l) (m.length / 64 + 1))
    (a' : Option Addr) (hby : l.drop (64 - u) = [] ∨ a' = some ⟨b', off' + (64 - u), none⟩) (hne : ∀ b off, a' = some ⟨b, off, none⟩ → b ≠ g) {cap' : Nat} (hcp : l.length - (64 - u) ≤ cap') :
    WInv g m l w (.slice a' (l.length - (64 - u)) cap')
      ((((((((w1.setCell ⟨g, 0, none⟩ (.int .u32 (U r.a))).setCell ⟨g, 1, none⟩ (.int .u32 (U r.b))).setCell ⟨g, 2, none⟩ (.int .u32 (U r.c))).setCell ⟨g, 3, none⟩ (.int .u32 (U r.d))).setCell ⟨g, 4, none⟩ (.int .u32 (U r.e))).setCell ⟨g, 5, none⟩ (.int .u32 (U r.f))).setCell ⟨g, 6, none⟩ (.int .u32 (U r.g))).setCell ⟨g, 7, none⟩ (.int .u32 (U r.h))) := by
  have hlt : b' < w.heap.size := block_lt_of_cell (hcell 0 (by omega))
  have hbB : But g w ((((((((w1.setCell ⟨g, 0, none⟩ (.int .u32 (U r.a))).setCell ⟨g, 1, none⟩ (.int .u32 (U r.b))).setCell ⟨g, 2, none⟩ (.int .u32 (U r.c))).setCell ⟨g, 3, none⟩ (.int .u32 (U r.d))).setCell ⟨g, 4, none⟩ (.int .u32 (U r.e))).setCell ⟨g, 5, none⟩ (.int .u32 (U r.f))).setCell ⟨g, 6, none⟩ (.int .u32 (U r.g))).setCell ⟨g, 7, none⟩ (.int .u32 (U r.h))) :=
    ((((((((hbut.trans (But.of_below hb1)).setCell 0 _).setCell 1 _).setCell 2 _).setCell 3 _).setCell 4 _).setCell 5 _).setCell 6 _).setCell 7 _
  have hst := st_stores (r := r) hg1
  generalize ((((((((w1.setCell ⟨g, 0, none⟩ (.int .u32 (U r.a))).setCell ⟨g, 1, none⟩ (.int .u32 (U r.b))).setCell ⟨g, 2, none⟩ (.int .u32 (U r.c))).setCell ⟨g, 3, none⟩ (.int .u32 (U r.d))).setCell ⟨g, 4, none⟩ (.int .u32 (U r.e))).setCell ⟨g, 5, none⟩ (.int .u32 (U r.f))).setCell ⟨g, 6, none⟩ (.int .u32 (U r.g))).setCell ⟨g, 7, none⟩ (.int .u32 (U r.h))) = W at hbB hst ⊢
  refine ⟨64 - u, m.length / 64 + 1, a', cap', blk, rfl, by omega, by omega, hcp, by rw [hst, hr, hnn], hblk, hbB, ?_, hne⟩
  rcases hby with h | h
  · exact .inl h
  · refine .inr ⟨b', off' + (64 - u), h, fun j hj => ?_⟩
    exact (hbB.cell (p := ⟨b', off' + (64 - u) + j, none⟩) hlt hnb).trans (Byt.drop hcell (64 - u) j hj)

set_option maxRecDepth 100000 in
set_option maxHeartbeats 8000000 in
theorem write_u2 (g : Nat) (m l : List UInt8) (a : Option Addr) (cap : Nat) (w : World) (hr : Rep w g m) (hb : Byt w a l) (hbg : ∀ b off, a = some ⟨b, off, none⟩ → b ≠ g) (hK : KeysAt w) (hg4 : g ≠ 4)
    (hm : m.length ≤ 1152921504606846976) (hl : l.length ≤ 1152921504606846976) (hcap : l.length ≤ cap) (hu : 0 < m.length % 64) (h1 : 64 ≤ m.length % 64 + l.length) :
    Calls Tryd.prog 21 #[.pointer (some ⟨g, 0, none⟩), .slice a l.length cap] w fun e w' => e = .returned (.tuple #[]) ∧ Rep w' g (m ++ l) ∧ But g w w' := by
  obtain ⟨bl, hg, hbl, htk⟩ := hr
  have q72 := (cell_of_row w g 72 _ _ _ hg).trans (hc_len _ bl _ hbl)
  have f72 := frozen_of_row w g 72 _ _ hg
  have hb1 : But g w (w.setCell ⟨g, 72, none⟩ (.int .i64 ((m.length : Int) + (l.length : Int)))) := (But.refl _ _).setCell 72 _
  rcases hb with h | ⟨b', off', rfl, hcell⟩
  · rw [h] at h1; simp at h1; omega
  have hnb := hbg b' off' rfl
  have hx : (l.take (64 - m.length % 64)).length = 64 - m.length % 64 := by simp; omega
  have hsrc : Hid (∀ j v, (byC (l.take (64 - m.length % 64)))[j]? = some v → (w.setCell ⟨g, 72, none⟩ (.int .i64 ((m.length : Int) + (l.length : Int)))).cell? ((⟨b', off', none⟩ : Addr).add j) = some v) := fun j v hj => by
    obtain ⟨h1, rfl⟩ := byC_get _ j v hj
    have hj2 : j < l.length := by rw [hx] at h1; omega
    rw [Addr.add_mid, hb1.cell (p := ⟨b', off' + j, none⟩) (block_lt_of_cell (hcell j hj2)) hnb, hcell j hj2]
    have e : at8 (l.take (64 - m.length % 64)) j = at8 l j := by rw [hx] at h1; simp [at8, List.getElem?_take, h1]
    rw [e]
  have hfit : Hid (8 + m.length % 64 + (byC (l.take (64 - m.length % 64))).length ≤ (hc (stN m (m.length / 64)) bl ((m ++ l).length : Int)).size) := by
    show _ ≤ _
    rw [hc_size _ _ _ hbl, byC_len, hx]; omega
  have HL : Hid ((byC (l.take (64 - m.length % 64))).length = Nat.min l.length (64 - m.length % 64)) := by
    show _ = _
    rw [byC_len, hx]; exact (Nat.min_eq_right (by omega)).symm
  have hsp := hc_splice (stN m (m.length / 64)) bl ((m ++ l).length : Int) (m.length % 64) (l.take (64 - m.length % 64)) hbl (by rw [hx]; omega)
  rw [full_block m l bl hbl htk h1, ← stN_app m l _ (by omega)] at hsp
  have hgs := start_set (l := l) hg hbl
  have LB : (((m ++ l).drop (64 * (m.length / 64))).take 64).length = 64 := by simp; omega
  have LBC : Hid ((byC (l.take (64 - m.length % 64))).length = 64 - m.length % 64) := by show _ = _; rw [byC_len, hx]
  have HSP : Hid (_ = _) := hsp
  have HN : Hid (stN (m ++ l) (m.length / 64 + 1) = (stN (m ++ l) (m.length / 64)).mix (((m ++ l).drop (64 * (m.length / 64))).take 64)) := rfl
  have ES : Hid (stN (m ++ l) (m.length / 64) = stN m (m.length / 64)) := stN_app m l _ (by omega)
  clear hsp
  obtain ⟨nn, hnn⟩ : ∃ nn : Int, nn = (((m ++ l).length : Nat) : Int) := ⟨_, rfl⟩
  rw [← hnn] at hgs hfit HSP
  rw [← ES.out] at hgs hfit
  have ENN : Hid (nn = (((m ++ l).length : Nat) : Int)) := hnn
  clear hnn
  have hg2 : ((w.setCell ⟨g, 72, none⟩ (.int .i64 ((m.length : Int) + (l.length : Int)))).setRow g (hc (stN (m ++ l) (m.length / 64)) (((m ++ l).drop (64 * (m.length / 64))).take 64) nn)).heap[g]? = some (.cells (hc (stN (m ++ l) (m.length / 64)) (((m ++ l).drop (64 * (m.length / 64))).take 64) nn) 62 (0, 0)) := setRow_heap _ _ _ _ _ _ hgs
  have hbut2 := hb1.setRow (hc (stN (m ++ l) (m.length / 64)) (((m ++ l).drop (64 * (m.length / 64))).take 64) nn)
  obtain ⟨u, hu'⟩ : ∃ u, u = m.length % 64 := ⟨_, rfl⟩
  have HU : Hid (u = m.length % 64) := hu'
  have eu : (m.length : Int) % 64 = (u : Int) := by omega
  rw [← hu'] at hu h1 hfit HL hsrc LBC HSP
  have hul : u < 64 := by omega
  have hsl := fun wx => slice54 g u hu hul wx
  clear hu' htk hx
  obtain ⟨n, hn⟩ : ∃ n, n = 64 - u := ⟨_, rfl⟩
  have HNN : Hid (n = 64 - u) := hn
  have hn1 : u + n = 64 := by omega
  have hn2 : n ≤ l.length := by omega
  go_enter Tryd.func21, Tryd.ntmps21
  go_wp2_with (refine wpList_copy_own rfl (.tmp 28) (.tmp 29) 26 26 rfl 5 Tryd.underlying26 hsz5 g (8 + u) (64 - u) (64 - u) ⟨b', off', none⟩ l.length cap rfl rfl (hc (stN (m ++ l) (m.length / 64)) bl nn) 62 hgs (byC (l.take (64 - u))) HL.out hsrc.out hfit.out (byC_one _) ?_; rw [HSP.out, LBC.out])
  clear hsl hgs hsrc hfit HL HSP LBC q72 f72 eu
  generalize (w.setCell ⟨g, 72, none⟩ (.int .i64 ((m.length : Int) + (l.length : Int)))).setRow g (hc (stN (m ++ l) (m.length / 64)) (((m ++ l).drop (64 * (m.length / 64))).take 64) nn) = W2 at *
  obtain ⟨⟨y0, y1, y2, y3, y4, y5, y6, y7⟩, yf⟩ := st_cells hg2
  have hK2 := hbut2.keys hK hg4
  have hlt : g < W2.heap.size := (Array.getElem?_eq_some_iff.1 hg2).1
  have H : Hid (∀ wx, wx.heap = W2.heap → Calls Tryd.prog 35 #[.agg #[.int .u32 (U (stN (m ++ l) (m.length / 64)).a), .int .u32 (U (stN (m ++ l) (m.length / 64)).b), .int .u32 (U (stN (m ++ l) (m.length / 64)).c), .int .u32 (U (stN (m ++ l) (m.length / 64)).d), .int .u32 (U (stN (m ++ l) (m.length / 64)).e), .int .u32 (U (stN (m ++ l) (m.length / 64)).f), .int .u32 (U (stN (m ++ l) (m.length / 64)).g), .int .u32 (U (stN (m ++ l) (m.length / 64)).h)], .slice (some ⟨g, 8, none⟩) 64 64] wx fun e w' =>
      ∃ r : S8, r = stN (m ++ l) (m.length / 64 + 1) ∧ e = .returned (.agg #[.int .u32 (U r.a), .int .u32 (U r.b), .int .u32 (U r.c), .int .u32 (U r.d), .int .u32 (U r.e), .int .u32 (U r.f), .int .u32 (U r.g), .int .u32 (U r.h)]) ∧ Below wx.heap.size wx w') := fun wx hx =>
    mixed_lit (stN (m ++ l) (m.length / 64)) g 8 64 (((m ++ l).drop (64 * (m.length / 64))).take 64) wx LB (fun j hj => by
      rw [World.cell?_of_block (w := W2) (by rw [hx])]
      exact (cell_of_row W2 g (8 + j) _ _ _ hg2).trans (hc_block _ _ _ LB j hj)) (fun j hj => by rw [World.cell?_of_block (w := W2) (by rw [hx])]; exact hK2 j hj)
  have SN : Hid (stN (m ++ l) (m.length / 64 + 1) = stN (m ++ l) (m.length / 64 + 1)) := rfl
  generalize stN (m ++ l) (m.length / 64) = s at *
  generalize ((m ++ l).drop (64 * (m.length / 64))).take 64 = blk at *
  go_region_with (go_at_call 35; refine (H.out _ ?_).mono ?_; rfl; rintro e w1 ⟨r, hr, rfl, hb1'⟩; have HR : Hid (r = stN (m ++ l) (m.length / 64 + 1)) := hr; clear hr; have hg1 : w1.heap[g]? = some (.cells (hc s blk nn) 62 (0, 0)) := (hb1'.block g hlt).trans hg2; obtain ⟨⟨z0, z1, z2, z3, z4, z5, z6, z7⟩, zf⟩ := st_cells hg1)
  all_goals clear y0 y1 y2 y3 y4 y5 y6 y7 yf z0 z1 z2 z3 z4 z5 z6 z7 zf
  all_goals go_wp2
  all_goals
    clear hg H SN
    go_loopw [1] (fun v wr => WInv g m l w v wr) (fun v _ => lenOf v)
    case atStart => first | exact winv_fill HU.out hu h1 LB hbut2 hcell hnb (below_of_drew hb1') hg1 ENN.out HR.out _ (.inl (List.drop_eq_nil_of_le (by omega))) (fun b off e => by cases e; exact hnb) (by omega) | exact winv_fill HU.out hu h1 LB hbut2 hcell hnb (below_of_drew hb1') hg1 ENN.out HR.out _ (.inr rfl) (fun b off e => by cases e; exact hnb) (by omega)
    case round =>
      obtain ⟨c, k, a', cap', bl', rfl, hc1, hck, hcp, hgr, hbl', hbut, hby, hne⟩ := hrel
      by_cases h64 : 64 ≤ l.length - c
      · rcases hby with h0 | ⟨b', off', rfl, hcell⟩
        · have := congrArg List.length h0
          rw [List.length_drop, List.length_nil] at this
          omega
        · have hnb := hne b' off' rfl
          obtain ⟨⟨y0, y1, y2, y3, y4, y5, y6, y7⟩, yf⟩ := st_cells hgr
          have hKr := hbut.keys hK hg4
          have hlt : g < wr.heap.size := (Array.getElem?_eq_some_iff.1 hgr).1
          have H : Hid (∀ cp wx, wx.heap = wr.heap → Calls Tryd.prog 35 #[.agg #[.int .u32 (U (stN (m ++ l) k).a), .int .u32 (U (stN (m ++ l) k).b), .int .u32 (U (stN (m ++ l) k).c), .int .u32 (U (stN (m ++ l) k).d), .int .u32 (U (stN (m ++ l) k).e), .int .u32 (U (stN (m ++ l) k).f), .int .u32 (U (stN (m ++ l) k).g), .int .u32 (U (stN (m ++ l) k).h)], .slice (some ⟨b', off', none⟩) 64 cp] wx fun e w' =>
              ∃ r : S8, r = stN (m ++ l) (k + 1) ∧ e = .returned (.agg #[.int .u32 (U r.a), .int .u32 (U r.b), .int .u32 (U r.c), .int .u32 (U r.d), .int .u32 (U r.e), .int .u32 (U r.f), .int .u32 (U r.g), .int .u32 (U r.h)]) ∧ Below wx.heap.size wx w') := fun cp wx hx => by
            have hblk : (m ++ l).drop (64 * k) = l.drop c := by rw [List.drop_append, List.drop_eq_nil_of_le (by omega), List.nil_append]; congr 1; omega
            have := mixed_lit (stN (m ++ l) k) b' off' cp ((l.drop c).take 64) wx (by simp; omega) (fun j hj => by
              have e : at8 ((l.drop c).take 64) j = at8 (l.drop c) j := by simp [at8, List.getElem?_take, hj]
              rw [e, World.cell?_of_block (w := wr) (by rw [hx])]
              exact hcell j (by simp; omega)) (fun j hj => by rw [World.cell?_of_block (w := wr) (by rw [hx])]; exact hKr j hj)
            rw [← hblk] at this
            exact this
          generalize stN (m ++ l) k = s at *
          go_wp2
          all_goals (go_region_with (go_at_call 35; refine (H.out _ _ ?_).mono ?_; rfl; rintro e w1 ⟨r, hr, rfl, hb1⟩; have HR : Hid (r = stN (m ++ l) (k + 1)) := hr; clear hr; have hg1 : w1.heap[g]? = some (.cells (hc s bl' ((m ++ l).length : Int)) 62 (0, 0)) := (hb1.block g hlt).trans hgr; obtain ⟨⟨z0, z1, z2, z3, z4, z5, z6, z7⟩, zf⟩ := st_cells hg1))
          all_goals clear y0 y1 y2 y3 y4 y5 y6 y7 yf z0 z1 z2 z3 z4 z5 z6 z7 zf
          all_goals go_wp2
          all_goals exact ⟨winv_step hc1 hck hcp h64 hbl' hbut hcell hnb (below_of_drew hb1) hg1 HR.out, by simp [lenOf]; omega⟩
      · have HE := fun (W : World) (h : W.heap[g]? = _) => rep_end (W := W) hc1 hck (by omega) hbl' h
        have HEE : Hid (∀ W : World, W.heap[g]? = some (.cells (hc (stN (m ++ l) k) (l.drop c ++ bl'.drop (l.length - c)) ((m ++ l).length : Int)) 62 (0, 0)) → Rep W g (m ++ l)) := HE
        clear HE
        by_cases h0 : l.length - c = 0
        · have hlc : l.drop c = [] := List.drop_eq_nil_of_le (by omega)
          have hgr2 : wr.heap[g]? = some (.cells (hc (stN (m ++ l) k) (l.drop c ++ bl'.drop (l.length - c)) ((m ++ l).length : Int)) 62 (0, 0)) := by rw [hlc, h0]; simpa using hgr
          have R := HEE.out wr hgr2
          clear hgr2 hlc HEE hgr
          have hmin : Nat.min (l.length - c) 64 = 0 := by rw [h0]; rfl
          have h0' : l.length ≤ c := by omega
          have HM : Hid (Nat.min (l.length - c) 64 = 0) := hmin
          clear h0 hmin
          go_wp2_with (refine wpList_copy_nothing rfl (.tmp 68) (.tmp 69) 26 26 rfl 5 Tryd.underlying26 hsz5 _ _ 64 64 (l.length - c) cap' rfl rfl HM.out ?_)
          go_end0
          exact ⟨rfl, R, hbut⟩
        · rcases hby with h1 | ⟨b', off', rfl, hcell⟩
          · have := congrArg List.length h1
            rw [List.length_drop, List.length_nil] at this
            omega
          · have hlen : (byC (l.drop c)).length = Nat.min (l.length - c) 64 := by rw [byC_len, List.length_drop]; exact (Nat.min_eq_left (by omega)).symm
            have hsp := hc_splice (stN (m ++ l) k) bl' ((m ++ l).length : Int) 0 (l.drop c) hbl' (by simp; omega)
            simp only [List.take_zero, List.nil_append, Nat.zero_add, Nat.add_zero, List.length_drop] at hsp
            have R := HEE.out (wr.setRow g (hc (stN (m ++ l) k) (l.drop c ++ bl'.drop (l.length - c)) ((m ++ l).length : Int))) (setRow_heap _ _ _ _ _ _ hgr)
            rw [← hsp] at R
            have RR := And.intro R (hbut.setRow (g := g) (((hc (stN (m ++ l) k) bl' ((m ++ l).length : Int)).toList.take 8 ++ (byC (l.drop c) ++ (hc (stN (m ++ l) k) bl' ((m ++ l).length : Int)).toList.drop (8 + (byC (l.drop c)).length))).toArray))
            have RH : Hid (_ ∧ _) := RR
            clear RR R hsp HEE
            have hsrc : Hid (∀ j v, (byC (l.drop c))[j]? = some v → wr.cell? ((⟨b', off', none⟩ : Addr).add j) = some v) := fun j v hj => by
              obtain ⟨h1, rfl⟩ := byC_get _ j v hj
              rw [Addr.add_mid]
              exact hcell j h1
            have hfit : Hid (8 + (byC (l.drop c)).length ≤ (hc (stN (m ++ l) k) bl' ((m ++ l).length : Int)).size) := by
              show _ ≤ _
              rw [hc_size _ _ _ hbl', byC_len]; simp; omega
            have HL : Hid ((byC (l.drop c)).length = Nat.min (l.length - c) 64) := hlen
            clear hlen
            go_wp2_with (refine wpList_copy_own rfl (.tmp 68) (.tmp 69) 26 26 rfl 5 Tryd.underlying26 hsz5 g 8 64 64 ⟨b', off', none⟩ (l.length - c) cap' rfl rfl (hc (stN (m ++ l) k) bl' ((m ++ l).length : Int)) 62 hgr (byC (l.drop c)) HL.out hsrc.out hfit.out (byC_one _) ?_)
            go_end0
            rw [show ((m.length : Int) + (l.length : Int)) = (((m ++ l).length : Nat) : Int) by simp]
            exact ⟨rfl, RH.out.1, RH.out.2⟩
end Go.Proofs.YtpmdlhlojifoeaaDoor

namespace Go.Proofs.YtpmdlhlojifoeaaDoor
open Go.RowKit
set_option linter.unusedVariables false
set_option linter.unusedSimpArgs false
attribute [local go_sem] bits_xor bits_and bits_or U_shr4 and15 xor_max

/-- The table lies where it lies. -/
def NibsAt (w : World) : Prop := ∀ j, j < 16 → w.cell? ⟨0, j, none⟩ = some (.int .u32 (U (nibs.getD j 0)))

theorem nib_cell {w : World} (hn : NibsAt w) (x : UInt32) : w.cell? ⟨0, (U x % 16).toNat, none⟩ = some (.int .u32 (U (nib x))) := by
  rw [U_and15, hn _ (by omega)]
  rfl

set_option maxHeartbeats 800000 in
theorem crc_any (a : Option Addr) (l : List UInt8) (cap : Nat) (w : World) (hb : Byt w a l) (hl : l.length ≤ 4611686018427387904) (hn : NibsAt w) :
    Calls Tryd.prog 11 #[.slice a l.length cap] w fun e w' => e = .returned (.int .u32 (U (crc l))) ∧ w' = w := by
  rcases hb with rfl | ⟨b, off, rfl, hc⟩
  · have e0 : bits .xor .u32 IntKind.u32.max 4294967295 = U (crc []) := by decide
    go_enter Tryd.func11, Tryd.ntmps11
    go_wp2
    refine wp_loop_rounds 1 ?_
    rw [rounds_succ]
    go_wp2
    go_ret
    exact ⟨rfl, rfl⟩
  · go_enter Tryd.func11, Tryd.ntmps11
    go_wp2
    go_loop [3, 5, 8] (fun r _ i => ∃ k : Nat, k ≤ l.length ∧ i = .int .i64 k ∧ r = .int .u32 (U (crcReg (l.take k)))) (fun _ _ i => l.length - (intOf i).toNat)
    case atStart => exact ⟨0, Nat.zero_le _, rfl, rfl⟩
    case round =>
      obtain ⟨k, hk, rfl, rfl⟩ := hrel
      by_cases h1 : k < l.length
      · have c1 := hc k h1
        have t1 := crcReg_take l k h1
        obtain ⟨r, hr⟩ : ∃ r, r = crcReg (l.take k) := ⟨_, rfl⟩
        obtain ⟨v, hv⟩ : ∃ v, v = UInt32.ofNat (l.getD k 0).toNat := ⟨_, rfl⟩
        have hat : at8 l k % 4294967296 = U v := by
          rw [hv, ← U_byte]; unfold at8; have := (l.getD k 0).toNat_lt; omega
        have T1 : Hid (crcReg (l.take (k + 1)) = half (half (r ^^^ v))) := by rw [hr, hv]; exact t1
        rw [← hr]
        clear t1 hr hv
        have n1 := nib_cell hn (r ^^^ v)
        have n2 := nib_cell hn ((r ^^^ v) >>> 4 ^^^ nib (r ^^^ v))
        go_wp2
        go_round
        case rel => exact ⟨k + 1, by omega, by go_num, by rw [T1.out]; rfl⟩
        case measure => simp [intOf]; omega
      · have hk2 : k = l.length := by omega
        subst hk2
        rw [List.take_length]
        obtain ⟨r, hr⟩ : ∃ r, r = crcReg l := ⟨_, rfl⟩
        have T1 : Hid (crc l = r ^^^ 0xffffffff) := by rw [hr]; rfl
        rw [← hr]
        clear hr
        go_wp2
        go_ret
        exact ⟨ret_int (by rw [T1.out]), rfl⟩
end Go.Proofs.YtpmdlhlojifoeaaDoor

namespace Go.Proofs.YtpmdlhlojifoeaaDoor
open Go.RowKit
set_option linter.unusedVariables false
set_option linter.unusedSimpArgs false

theorem nibs_xor : ∀ x : Fin 16, ∀ y : Fin 16, nibs.getD (x.val ^^^ y.val) 0 = nibs.getD x.val 0 ^^^ nibs.getD y.val 0 := by decide
theorem nib_xor (a b : UInt32) : nib (a ^^^ b) = nib a ^^^ nib b := by
  unfold nib
  have e : (a ^^^ b).toNat % 16 = (a.toNat % 16) ^^^ (b.toNat % 16) := by
    rw [UInt32.toNat_xor, ← Nat.and_two_pow_sub_one_eq_mod _ 4, ← Nat.and_two_pow_sub_one_eq_mod _ 4, ← Nat.and_two_pow_sub_one_eq_mod _ 4, Nat.and_xor_distrib_right]
  rw [e]
  exact nibs_xor ⟨a.toNat % 16, by omega⟩ ⟨b.toNat % 16, by omega⟩
theorem shr_xor (a b c : UInt32) : (a ^^^ b) >>> c = a >>> c ^^^ b >>> c := by
  apply UInt32.toNat_inj.1
  rw [UInt32.toNat_xor, UInt32.toNat_shiftRight, UInt32.toNat_shiftRight, UInt32.toNat_shiftRight, UInt32.toNat_xor, Nat.shiftRight_xor_distrib]
theorem half_xor (a b : UInt32) : half (a ^^^ b) = half a ^^^ half b := by
  unfold half
  rw [nib_xor, shr_xor]
  ac_rfl
theorem ofNat_xor (a b : UInt8) : UInt32.ofNat (a ^^^ b).toNat = UInt32.ofNat a.toNat ^^^ UInt32.ofNat b.toNat := by
  apply UInt32.toNat_inj.1
  have ha := a.toNat_lt
  have hb := b.toNat_lt
  have hc := (a ^^^ b).toNat_lt
  rw [UInt32.toNat_xor, UInt32.toNat_ofNat', UInt32.toNat_ofNat', UInt32.toNat_ofNat', Nat.mod_eq_of_lt (by omega), Nat.mod_eq_of_lt (by omega), Nat.mod_eq_of_lt (by omega), UInt8.toNat_xor]
theorem step_xor3 (r s t : UInt32) (x y z : UInt8) : crcStep (r ^^^ s ^^^ t) (x ^^^ y ^^^ z) = crcStep r x ^^^ crcStep s y ^^^ crcStep t z := by
  unfold crcStep
  rw [ofNat_xor, ofNat_xor, ← half_xor, ← half_xor, ← half_xor, ← half_xor]
  congr 2
  ac_rfl

/-- Byte by byte. -/
def xor3 (a b c : List UInt8) : List UInt8 := (a.zip (b.zip c)).map (fun p => p.1 ^^^ p.2.1 ^^^ p.2.2)
theorem reg_xor3 (a b c : List UInt8) (r s t : UInt32) (h1 : a.length = b.length) (h2 : a.length = c.length) :
    (xor3 a b c).foldl crcStep (r ^^^ s ^^^ t) = a.foldl crcStep r ^^^ b.foldl crcStep s ^^^ c.foldl crcStep t := by
  induction a generalizing b c r s t with
  | nil =>
    cases b with
    | nil => cases c with | nil => rfl | cons _ _ => simp at h2
    | cons _ _ => simp at h1
  | cons x a ih =>
    cases b with
    | nil => simp at h1
    | cons y b =>
      cases c with
      | nil => simp at h2
      | cons z c =>
        simp only [xor3, List.zip_cons_cons, List.map_cons, List.foldl_cons]
        rw [step_xor3]
        exact ih b c _ _ _ (by simpa using h1) (by simpa using h2)
theorem crc_xor3 (a b c : List UInt8) (h1 : a.length = b.length) (h2 : a.length = c.length) : crc (xor3 a b c) = crc a ^^^ crc b ^^^ crc c := by
  have h := reg_xor3 a b c 0xffffffff 0xffffffff 0xffffffff h1 h2
  have e : (0xffffffff : UInt32) ^^^ 0xffffffff ^^^ 0xffffffff = 0xffffffff := by decide
  rw [e] at h
  unfold crc crcReg
  rw [h]
  generalize List.foldl crcStep 4294967295 a = p
  generalize List.foldl crcStep 4294967295 b = q
  generalize List.foldl crcStep 4294967295 c = o
  generalize hm : (4294967295 : UInt32) = m
  have e2 : p ^^^ m ^^^ (q ^^^ m) ^^^ (o ^^^ m) = p ^^^ q ^^^ o ^^^ (m ^^^ m ^^^ m) := by ac_rfl
  rw [e2]
  simp
end Go.Proofs.YtpmdlhlojifoeaaDoor

namespace Go.Proofs.YtpmdlhlojifoeaaDoor
open Go.RowKit
set_option linter.unusedVariables false
set_option linter.unusedSimpArgs false

theorem Tryd.info5 : (Tryd.prog.info? 5).map (fun i => (i.zero, i.size, i.bytes)) = some (some (.int .u8 0), 1, 1) := by kernel_rfl
theorem made_bs (n : Nat) : madeCells #[.int .u8 0] n = bs (List.replicate n 0) := by
  apply Array.ext
  · simp [madeCells, bs]
  · intro i h1 h2
    simp [madeCells, bs, Nat.mod_one]

theorem crc_at (len : Nat) (a : Option Addr) (l : List UInt8) (cap : Nat) (w : World) (h : l.length = len) (hb : Byt w a l) (hl : len ≤ 4611686018427387904) (hn : NibsAt w) :
    Calls Tryd.prog 11 #[.slice a len cap] w fun e w' => e = .returned (.int .u32 (U (crc l))) ∧ w' = w := by
  subst h
  exact crc_any a l cap w hb hl hn

def x3 (A B C : List UInt8) (k : Nat) : UInt8 := A.getD k 0 ^^^ B.getD k 0 ^^^ C.getD k 0
def xTo (n : Nat) (A B C : List UInt8) (k : Nat) : List UInt8 := (List.range n).map (fun i => if i < k then x3 A B C i else 0)
theorem xTo_len (n : Nat) (A B C : List UInt8) (k : Nat) : (xTo n A B C k).length = n := by simp [xTo]
theorem xTo_zero (n : Nat) (A B C : List UInt8) : xTo n A B C 0 = List.replicate n 0 := by simp [xTo, List.map_const']
theorem xTo_succ (n : Nat) (A B C : List UInt8) (k : Nat) (hk : k < n) : (xTo n A B C k).set k (x3 A B C k) = xTo n A B C (k + 1) := by
  apply List.ext_getElem
  · simp [xTo]
  · intro i h1 h2
    simp only [xTo, List.getElem_set, List.getElem_map, List.getElem_range]
    by_cases e : k = i
    · subst e; simp
    · have : (i < k + 1) = (i < k) := by apply propext; omega
      simp [e, this]
theorem xTo_all (n : Nat) (A B C : List UInt8) (h1 : A.length = n) (h2 : B.length = n) (h3 : C.length = n) : xTo n A B C n = xor3 A B C := by
  apply List.ext_getElem
  · simp [xTo, xor3, h1, h2, h3]
  · intro i g1 g2
    have hi : i < n := by simpa [xTo] using g1
    simp [xTo, xor3, x3, hi, h1, h2, h3]
theorem x3_bits (A B C : List UInt8) (k : Nat) : bits .xor .u8 (bits .xor .u8 (at8 A k) (at8 B k)) (at8 C k) = ((x3 A B C k).toNat : Int) := by
  unfold at8 x3
  rw [u8_xor_nat _ _ (UInt8.toNat_lt _) (UInt8.toNat_lt _), ← UInt8.toNat_xor, u8_xor_nat _ _ (UInt8.toNat_lt _) (UInt8.toNat_lt _), ← UInt8.toNat_xor]

def digs : List UInt8 := [49, 50, 51, 52, 53, 54, 55, 56, 57]
theorem crc_digs : U (crc digs) = 3421780262 := by decide +kernel
attribute [local go_sem] bits_xor
theorem lit9 (wr : World) : (convert 26 26 (.slice (some ⟨wr.heap.size, 0, none⟩) 9 9)).run Tryd.prog (wr.alloc (.cells #[.int .u8 49, .int .u8 50, .int .u8 51, .int .u8 52, .int .u8 53, .int .u8 54, .int .u8 55, .int .u8 56, .int .u8 57] 5)).drew = .ok (.slice (some ⟨wr.heap.size, 0, none⟩) 9 9) (wr.alloc (.cells (bs digs) 5 (9, 10))).drew :=
  Lib.run_convert_bytes_const (P := Tryd.prog) wr.drew 26 5 #[.int .u8 49, .int .u8 50, .int .u8 51, .int .u8 52, .int .u8 53, .int .u8 54, .int .u8 55, .int .u8 56, .int .u8 57] 9 9 Tryd.underlying26 Tryd.underlying5

end Go.Proofs.YtpmdlhlojifoeaaDoor

namespace Go.Proofs.YtpmdlhlojifoeaaDoor
open Go.RowKit
set_option linter.unusedVariables false
set_option linter.unusedSimpArgs false

theorem write_any (g : Nat) (m l : List UInt8) (a : Option Addr) (len cap : Nat) (w : World) (hlen : l.length = len) (hr : Rep w g m) (hb : Byt w a l) (hbg : ∀ b off, a = some ⟨b, off, none⟩ → b ≠ g) (hK : KeysAt w) (hg4 : g ≠ 4)
    (hm : m.length ≤ 1152921504606846976) (hl : l.length ≤ 1152921504606846976) (hcap : l.length ≤ cap) :
    Calls Tryd.prog 21 #[.pointer (some ⟨g, 0, none⟩), .slice a len cap] w fun e w' => e = .returned (.tuple #[]) ∧ Rep w' g (m ++ l) ∧ But g w w' := by
  subst hlen
  by_cases hu : m.length % 64 = 0
  · exact write_u0 g m l a cap w hr hb hbg hK hg4 hm hl hcap hu
  · by_cases h0 : 0 < l.length
    · by_cases h1 : m.length % 64 + l.length < 64
      · exact write_u1 g m l a cap w hr hb hbg hK hg4 hm hl hcap (by omega) h0 h1
      · exact write_u2 g m l a cap w hr hb hbg hK hg4 hm hl hcap (by omega) (by omega)
    · obtain rfl : l = [] := List.eq_nil_of_length_eq_zero (by omega)
      exact write_u1e g m a cap w hr hm (by omega)

/-- How much room stands ahead of the length. -/
def room (n : Nat) : Nat := 64 - (n + 8) % 64
def lenB (n i : Nat) : UInt8 := UInt8.ofNat (n * 8 / 2 ^ (56 - 8 * i))
def padTo (n k : Nat) : List UInt8 := (List.range (room n + 8)).map (fun j => if j = 0 then 128 else if room n ≤ j ∧ j < room n + k then lenB n (j - room n) else 0)
def padL (n : Nat) : List UInt8 := padTo n 8
theorem padTo_len (n k : Nat) : (padTo n k).length = room n + 8 := by simp [padTo]
theorem padTo_zero (n : Nat) : (List.replicate (room n + 8) (0 : UInt8)).set 0 128 = padTo n 0 := by
  apply List.ext_getElem
  · simp [padTo]
  · intro i h1 h2
    simp only [padTo, List.getElem_set, List.getElem_map, List.getElem_range, List.getElem_replicate]
    by_cases e : 0 = i
    · subst e; simp
    · have : ¬ (room n ≤ i ∧ i < room n + 0) := by omega
      rw [if_neg e, if_neg (by omega), if_neg this]
theorem padTo_succ (n k : Nat) (hk : k < 8) : (padTo n k).set (room n + k) (lenB n k) = padTo n (k + 1) := by
  have hr : 0 < room n := by unfold room; omega
  apply List.ext_getElem
  · simp [padTo]
  · intro i h1 h2
    simp only [padTo, List.getElem_set, List.getElem_map, List.getElem_range]
    by_cases e : room n + k = i
    · subst e
      rw [if_pos rfl, if_neg (by omega), if_pos (by omega), show room n + k - room n = k by omega]
    · have h : (room n ≤ i ∧ i < room n + (k + 1)) = (room n ≤ i ∧ i < room n + k) := by apply propext; omega
      rw [if_neg e]
      simp only [h]

theorem pad_rel (k : Nat) (hk : k < 8) {n : Nat} {w wr : World} (v : Int) (hv : v = ((lenB n k).toNat : Int)) (i : Int) (hi : i = ((k + 1 : Nat) : Int)) (o : Nat) (ho : o = room n + k)
    (hg : wr.heap[w.heap.size]? = some (.cells (bs (padTo n k)) 5 (0, 0))) (hbel : Below w.heap.size w wr) :
    ∃ k' : Nat, k' ≤ 8 ∧ Value.int .i64 i = .int .i64 k' ∧ (wr.setCell ⟨w.heap.size, o, none⟩ (.int .u8 v)).heap[w.heap.size]? = some (.cells (bs (padTo n k')) 5 (0, 0)) ∧ Below w.heap.size w (wr.setCell ⟨w.heap.size, o, none⟩ (.int .u8 v)) := by
  subst hv hi ho
  exact ⟨k + 1, by omega, rfl, by rw [heap_setCell_same wr w.heap.size _ _ 5 _ hg, bs_set, padTo_succ n k hk], hbel.setCell (Nat.le_refl _) _⟩

set_option maxHeartbeats 2000000 in
theorem padding_any (n : Nat) (w : World) (hn : n ≤ 1152921504606846976) :
    Calls Tryd.prog 36 #[.int .i64 (n : Int)] w fun e w' => e = .returned (.slice (some ⟨w.heap.size, 0, none⟩) (room n + 8) (room n + 8)) ∧ w'.heap[w.heap.size]? = some (.cells (bs (padL n)) 5 (0, 0)) ∧ Below w.heap.size w w' := by
  have hR1 : room n ≤ 64 := by unfold room; omega
  have hR2 : 0 < room n := by unfold room; omega
  have eR : 64 - ((n : Int) + 8) % 64 = (room n : Int) := by unfold room; omega
  have hmk := fun wx => run_make_row' (P := Tryd.prog) 26 5 (.int .u8 0) 1 Tryd.underlying26 Tryd.info5 rfl .i64 .i64 (room n + 8) (by omega) (by omega) wx
  rw [made_bs] at hmk
  have ec : ((room n + 8 : Nat) : Int) = (room n : Int) + 8 := by omega
  rw [ec] at hmk
  clear ec
  have hz0 := bs_set (List.replicate (room n + 8) 0) 0 128
  rw [padTo_zero] at hz0
  obtain ⟨Z, hZ⟩ : ∃ Z, Z = bs (List.replicate (room n + 8) 0) := ⟨_, rfl⟩
  rw [← hZ] at hmk hz0
  have c0 : Z[0]? = some (.int .u8 0) := by rw [hZ, bs_get _ 0 (by simp)]; simp [at8, List.getElem?_replicate]
  have HZ : Hid (Z.setIfInBounds 0 (.int .u8 ((128 : UInt8).toNat : Int)) = bs (padTo n 0)) := hz0
  clear hz0 hZ
  go_enter Tryd.func36, Tryd.ntmps36
  go_wp2
  clear hmk
  go_loopw [6, 19] (fun _ i wr => ∃ k : Nat, k ≤ 8 ∧ i = .int .i64 k ∧ wr.heap[w.heap.size]? = some (.cells (bs (padTo n k)) 5 (0, 0)) ∧ Below w.heap.size w wr) (fun _ i _ => 8 - (intOf i).toNat)
  case atStart => exact ⟨0, by omega, rfl, by rw [← HZ.out]; exact heap_alloc_new _ _, (Below.refl _ _).alloc (Nat.le_refl _) _⟩
  case round =>
    obtain ⟨k, hk, rfl, hg, hbel⟩ := hrel
    have hlt : w.heap.size < wr.heap.size := (Array.getElem?_eq_some_iff.1 hg).1
    by_cases h1 : k < 8
    · have hc := (cell_of_row wr w.heap.size (room n + k) _ _ _ hg).trans (bs_get _ (room n + k) (by rw [padTo_len]; omega))
      have hf := frozen_of_row wr w.heap.size (room n + k) _ _ hg
      have hs1 := padTo_succ n k h1
      have HS : Hid ((padTo n k).set (room n + k) (lenB n k) = padTo n (k + 1)) := hs1
      clear hs1
      rcases (show k = 0 ∨ k = 1 ∨ k = 2 ∨ k = 3 ∨ k = 4 ∨ k = 5 ∨ k = 6 ∨ k = 7 by omega) with rfl | rfl | rfl | rfl | rfl | rfl | rfl | rfl
      · simp only [Int.cast_ofNat_Int, Nat.add_zero, Int.natCast_zero] at *
        go_wp2
        go_roundw
        case rel => exact pad_rel 0 (by decide) _ (by unfold lenB; rw [UInt8.toNat_ofNat', show 2 ^ (56 - 8 * 0) = 72057594037927936 by decide]; omega) _ rfl _ rfl hg hbel
        case measure => simp [intOf]
      · simp only [Int.cast_ofNat_Int, Nat.add_zero, Int.natCast_zero] at *
        go_wp2
        go_roundw
        case rel => exact pad_rel 1 (by decide) _ (by unfold lenB; rw [UInt8.toNat_ofNat', show 2 ^ (56 - 8 * 1) = 281474976710656 by decide]; omega) _ rfl _ rfl hg hbel
        case measure => simp [intOf]
      · simp only [Int.cast_ofNat_Int, Nat.add_zero, Int.natCast_zero] at *
        go_wp2
        go_roundw
        case rel => exact pad_rel 2 (by decide) _ (by unfold lenB; rw [UInt8.toNat_ofNat', show 2 ^ (56 - 8 * 2) = 1099511627776 by decide]; omega) _ rfl _ rfl hg hbel
        case measure => simp [intOf]
      · simp only [Int.cast_ofNat_Int, Nat.add_zero, Int.natCast_zero] at *
        go_wp2
        go_roundw
        case rel => exact pad_rel 3 (by decide) _ (by unfold lenB; rw [UInt8.toNat_ofNat', show 2 ^ (56 - 8 * 3) = 4294967296 by decide]; omega) _ rfl _ rfl hg hbel
        case measure => simp [intOf]
      · simp only [Int.cast_ofNat_Int, Nat.add_zero, Int.natCast_zero] at *
        go_wp2
        go_roundw
        case rel => exact pad_rel 4 (by decide) _ (by unfold lenB; rw [UInt8.toNat_ofNat', show 2 ^ (56 - 8 * 4) = 16777216 by decide]; omega) _ rfl _ rfl hg hbel
        case measure => simp [intOf]
      · simp only [Int.cast_ofNat_Int, Nat.add_zero, Int.natCast_zero] at *
        go_wp2
        go_roundw
        case rel => exact pad_rel 5 (by decide) _ (by unfold lenB; rw [UInt8.toNat_ofNat', show 2 ^ (56 - 8 * 5) = 65536 by decide]; omega) _ rfl _ rfl hg hbel
        case measure => simp [intOf]
      · simp only [Int.cast_ofNat_Int, Nat.add_zero, Int.natCast_zero] at *
        go_wp2
        go_roundw
        case rel => exact pad_rel 6 (by decide) _ (by unfold lenB; rw [UInt8.toNat_ofNat', show 2 ^ (56 - 8 * 6) = 256 by decide]; omega) _ rfl _ rfl hg hbel
        case measure => simp [intOf]
      · simp only [Int.cast_ofNat_Int, Nat.add_zero, Int.natCast_zero] at *
        go_wp2
        go_roundw
        case rel => exact pad_rel 7 (by decide) _ (by unfold lenB; rw [UInt8.toNat_ofNat', show 2 ^ (56 - 8 * 7) = 1 by decide]; omega) _ rfl _ rfl hg hbel
        case measure => simp [intOf]
    · have hk2 : k = 8 := by omega
      subst hk2
      go_wp2
      go_ret
      exact ⟨rfl, hg, hbel⟩
end Go.Proofs.YtpmdlhlojifoeaaDoor

