import Derived.Test.YtgiblfhajiakgaaGreatDoorGw
namespace Go.Proofs.YtgiblfhajiakgaaGreatDoor
open Go.RowKit
set_option linter.unusedVariables false
set_option linter.unusedSimpArgs false

/-- All blocks but one are as they were. -/
structure Fo (g : Nat) (w w' : World) : Prop where
  os : w'.os = w.os
  tape : w'.tape = w.tape
  output : w'.output = w.output
  size : w.heap.size ≤ w'.heap.size
  block : ∀ k, k ≠ g → k < w.heap.size → w'.heap[k]? = w.heap[k]?
theorem Fo.refl (g : Nat) (w : World) : Fo g w w := ⟨rfl, rfl, rfl, Nat.le_refl _, fun _ _ _ => rfl⟩
theorem Fo.drew {g : Nat} {w w' : World} (h : Fo g w w') (m : Nat) : Fo g w (w'.drewN m) := ⟨h.os, h.tape, h.output, h.size, h.block⟩
theorem Fo.cell {g : Nat} {w w' : World} (h : Fo g w w') (i : Nat) (v : Value) : Fo g w (w'.setCell ⟨g, i, none⟩ v) := ⟨h.os, h.tape, h.output, by rw [World.size_setCell]; exact h.size, fun k h1 h2 => (Below.heap_setCell _ _ _ _ h1).trans (h.block k h1 h2)⟩
theorem Fo.cells {g : Nat} {w w' : World} (h : Fo g w w') (o : Nat) (vs : List Value) : Fo g w (w'.setCells g o vs) := by
  induction vs generalizing w' o with
  | nil => exact h
  | cons v r ih => exact ih (h.cell o v) (o + 1)
/-- What stands behind a write of a list. -/
def Wee (w : World) (Post : World → World → Prop) (w' : World) : Prop := ∃ wx w1, Below w.heap.size w wx ∧ w.heap.size + 1 < wx.heap.size ∧ Post wx w1 ∧ Fo (w.heap.size + 1) w1 w'
/-- A row of n bytes. -/
def Byr (w : World) (g n : Nat) : Prop := ∃ C : Array Value, w.heap[g]? = some (.cells C 5 (0, 0)) ∧ ∀ j, j < n → ∃ q : Int, C[j]? = some (.int .u8 q)
theorem Byr.set {w : World} {g n : Nat} (h : Byr w g n) (k : Nat) (q : Int) : Byr (w.setCell ⟨g, k, none⟩ (.int .u8 q)) g n := by
  obtain ⟨C, h1, h2⟩ := h
  refine ⟨_, heap_setCell_same w g k _ 5 _ h1, fun j hj => ?_⟩
  by_cases e : k = j
  · subst e
    obtain ⟨q0, hq⟩ := h2 k hj
    have hk : k < C.size := (Array.getElem?_eq_some_iff.1 hq).1
    exact ⟨q, by simp [hk]⟩
  · rw [Array.getElem?_setIfInBounds_ne e]
    exact h2 j hj

set_option maxRecDepth 100000 in
set_option maxHeartbeats 2000000 in
theorem write_7 (ptr : Option Addr) (o : OpV) (hh : o.h.length = 32) (R : List UInt8) (hR : R.length = o.rn) (hn : o.rn ≤ 140737488351232) (w : World) (hb : K.Byt w o.ra R) (Post : World → World → Prop)
    (H : ∀ wx, Below w.heap.size w wx → w.heap.size + 1 < wx.heap.size → wx.heap[w.heap.size + 1]? = some (.cells (bs (R ++ K.marks)) 5 (0, 0)) → Calls Tryz.prog 38 #[.pointer ptr, .slice (some ⟨w.heap.size + 1, 0, none⟩) o.rn (o.rn + 9)] wx fun x w1 => x = .returned (.tuple #[]) ∧ Post wx w1 ∧ Keeps w.heap.size wx w1 ∧ K.Byt w1 o.ra R) :
    Calls Tryz.prog 6 #[.pointer ptr, .agg (o.c 7)] w fun x w' => x = .returned (.bool true) ∧ Wee w Post w' := by
  obtain ⟨wx, hwx, bx, sx, ⟨r0, r1, r2, r3, r4, r5, r6, r7, rh, r40, r41⟩⟩ := op_block o hh 7 w
  have HH : Hid (Calls Tryz.prog 17 #[.slice o.ra o.rn o.rc] wx fun e w' => e = .returned (.slice (some ⟨w.heap.size + 1, 0, none⟩) o.rn (o.rn + 9)) ∧ w'.heap[w.heap.size + 1]? = some (.cells (bs (R ++ K.marks)) 5 (0, 0)) ∧ Below w.heap.size w w' ∧ Below wx.heap.size wx w') := by
    have := K.hand_any o.ra R o.rc wx (K.byt_below hb bx) (by omega)
    rw [hR, sx] at this
    exact this.mono fun e w' h => ⟨h.1, h.2.1, bx.trans (h.2.2.mono (by omega)), by rw [sx]; exact h.2.2⟩
  have HC := K.Hid.mk' H
  have SX := K.Hid.mk' sx
  have HB := K.Hid.mk' hb
  have HR := K.Hid.mk' hR
  have R7 := K.Hid.mk' r7
  have E0 : Hid (w.heap.size < wx.heap.size) := by show _ < _; omega
  clear H bx sx hb hR r1 r2 r3 r4 r5 r6 rh r40 r41
  generalize o.c 7 = C at *
  go_enter Tryz.func6, Tryz.ntmps6
  go_upto_region 1 with fail
  rw [← hwx]
  clear hwx
  go_wp2_with fail
  refine HH.out.mono ?_
  rintro x w1 ⟨rfl, g1, b1, bx1⟩
  have hlt1 : w.heap.size + 1 < w1.heap.size := (Array.getElem?_eq_some_iff.1 g1).1
  have HC1 := K.Hid.mk' (HC.out w1 b1 hlt1 g1)
  have G1 := K.Hid.mk' g1
  have B1 := K.Hid.mk' b1
  have R71 : Hid (w1.cell? ⟨w.heap.size, 7, none⟩ = some (.slice o.ra o.rn o.rc)) := by show _ = _; rw [bx1.cell (p := ⟨w.heap.size, 7, none⟩) E0.out]; exact R7.out
  clear HC HH g1 b1 bx1 r0 r7
  go_wp2_with fail
  refine HC1.out.mono ?_
  rintro x w2 ⟨rfl, hp, hk, hby⟩
  have hlt2 : w.heap.size + 1 < w2.heap.size := by have := hk.size; omega
  have r72 : w2.cell? ⟨w.heap.size, 7, none⟩ = some (.slice o.ra o.rn o.rc) := cell_block (hk.block _ (Nat.le_refl _) (by omega)) R71.out
  have g2 : w2.heap[w.heap.size + 1]? = some (.cells (bs (R ++ K.marks)) 5 (0, 0)) := by rw [hk.block _ (by omega) hlt1]; exact G1.out
  have HP := K.Hid.mk' hp
  have HK : Hid (Calls Tryz.prog 20 #[.slice (some ⟨w.heap.size + 1, 0, none⟩) o.rn (o.rn + 9), .slice o.ra o.rn o.rc] w2 fun e w' => e = .returned (.bool true) ∧ ∃ m, w' = w2.drewN m) := by
    have := K.kept_any (w.heap.size + 1) o.ra R o.rc w2 g2 hby (by rw [HR.out]; exact hn)
    rw [HR.out] at this
    exact this
  have Y2 : Hid (Byr w2 (w.heap.size + 1) (o.rn + 9)) := ⟨_, g2, fun j hj => ⟨_, bs_get _ j (by simp [K.marks, HR.out]; omega)⟩⟩
  clear hp hk hby g2 HC1 G1
  go_wp2_with fail
  refine HK.out.mono ?_
  rintro x w3 ⟨rfl, m3, hm3⟩
  have Y3 : Hid (Byr w3 (w.heap.size + 1) (o.rn + 9)) := by rw [hm3]; exact Y2.out
  have F3 : Hid (Fo (w.heap.size + 1) w2 w3) := by rw [hm3]; exact (Fo.refl _ _).drew _
  clear hm3 HK Y2 r72 R7 R71 HB
  generalize o.rn = n at *
  go_wp2
  go_loopw [7] (fun i wr => ∃ k : Nat, k ≤ n ∧ i = .int .i64 k ∧ Hid (Byr wr (w.heap.size + 1) (n + 9)) ∧ Hid (Fo (w.heap.size + 1) w2 wr)) (fun i _ => n - (intOf i).toNat)
  case atStart => exact ⟨0, Nat.zero_le _, rfl, Y3, F3⟩
  case round =>
    obtain ⟨k, hk, rfl, HY, HF⟩ := hrel
    by_cases hkn : k < n
    · obtain ⟨C, hg, hcs⟩ := HY.out
      obtain ⟨q, hq⟩ := hcs k (by omega)
      have hc := (cell_of_row wr (w.heap.size + 1) k _ _ _ hg).trans hq
      have hf := frozen_of_row wr (w.heap.size + 1) k _ _ hg
      have YS : Hid (∀ v : Int, Byr (wr.setCell ⟨w.heap.size + 1, k, none⟩ (.int .u8 v)) (w.heap.size + 1) (n + 9)) := fun v => HY.out.set k v
      have FS : Hid (∀ v : Value, Fo (w.heap.size + 1) w2 (wr.setCell ⟨w.heap.size + 1, k, none⟩ v)) := fun v => HF.out.cell k v
      clear hcs hg hq
      go_wp2
      go_roundw
      case rel => exact ⟨k + 1, by omega, by go_num, YS.out _, FS.out _⟩
      case measure => simp [intOf]; omega
    · obtain rfl : k = n := by omega
      go_wp2
      go_ret
      exact ⟨rfl, w1, w2, B1.out, hlt1, HP.out, HF.out⟩

theorem built7 : Tryz.prog.built 36 [(0, .int .u8 7)] = some (bs (7 :: List.replicate 31 0)) := by kernel_rfl

set_option maxRecDepth 100000 in
set_option maxHeartbeats 2000000 in
theorem write_9 (ptr : Option Addr) (o : OpV) (hh : o.h.length = 32) (L : List (List UInt8)) (hL32 : All32 L) (hL : L.length = o.ln) (hn : o.ln ≤ 4398046510976) (w : World) (hb : Hl w o.la L) (Post : World → World → Prop)
    (H : ∀ wx, Below w.heap.size w wx → w.heap.size + 1 < wx.heap.size → Hs wx (w.heap.size + 1) 0 L → Calls Tryz.prog 41 #[.pointer ptr, .slice (some ⟨w.heap.size + 1, 0, none⟩) o.ln (o.ln + 9)] wx fun x w1 => x = .returned (.tuple #[]) ∧ Post wx w1 ∧ Keeps w.heap.size wx w1 ∧ Hl w1 o.la L) :
    Calls Tryz.prog 6 #[.pointer ptr, .agg (o.c 9)] w fun x w' => x = .returned (.bool true) ∧ Wee w Post w' := by
  obtain ⟨wx, hwx, bx, sx, ⟨r0, r1, r2, r3, r4, r5, r6, r7, rh, r40, r41⟩⟩ := op_block o hh 9 w
  have HH : Hid (Calls Tryz.prog 40 #[.slice o.la o.ln o.lc] wx fun e w' => e = .returned (.slice (some ⟨w.heap.size + 1, 0, none⟩) o.ln (o.ln + 9)) ∧ Hs w' (w.heap.size + 1) 0 (L ++ marks) ∧ w'.there (w.heap.size + 1) 0 (32 * (o.ln + 9)) ∧ w.heap.size + 1 < w'.heap.size ∧ Below w.heap.size w w' ∧ Below wx.heap.size wx w') := by
    have := handH_any o.la L o.lc wx hL32 (by omega) (hb.below hL32 bx)
    rw [hL, sx] at this
    exact this.mono fun e w' h => ⟨h.1, h.2.2.2.1, h.2.2.2.2, h.2.2.1, bx.trans (h.2.1.mono (by omega)), by rw [sx]; exact h.2.1⟩
  have HC := K.Hid.mk' H
  have SX := K.Hid.mk' sx
  have HLL := K.Hid.mk' hL
  have R40 := K.Hid.mk' r40
  have E0 : Hid (w.heap.size < wx.heap.size) := by show _ < _; omega
  clear H bx sx hb hL r1 r2 r3 r4 r5 r6 r7 rh r41
  generalize o.c 9 = C at *
  go_enter Tryz.func6, Tryz.ntmps6
  go_upto_region 1 with fail
  rw [← hwx]
  clear hwx
  go_wp2_with fail
  refine HH.out.mono ?_
  rintro x w1 ⟨rfl, g1, t1, hlt1, b1, bx1⟩
  have HC1 := K.Hid.mk' (HC.out w1 b1 hlt1 (hs_app g1))
  have G1 := K.Hid.mk' g1
  have T1 := K.Hid.mk' t1
  have B1 := K.Hid.mk' b1
  have R41 : Hid (w1.cell? ⟨w.heap.size, 40, none⟩ = some (.slice o.la o.ln o.lc)) := by show _ = _; rw [bx1.cell (p := ⟨w.heap.size, 40, none⟩) E0.out]; exact R40.out
  clear HC HH g1 t1 b1 bx1 r0 r40
  go_wp2_with fail
  refine HC1.out.mono ?_
  rintro x w2 ⟨rfl, hp, hk, hby⟩
  have hlt2 : w.heap.size + 1 < w2.heap.size := by have := hk.size; omega
  have r42 : w2.cell? ⟨w.heap.size, 40, none⟩ = some (.slice o.la o.ln o.lc) := cell_block (hk.block _ (Nat.le_refl _) (by omega)) R41.out
  have eb : w2.heap[w.heap.size + 1]? = w1.heap[w.heap.size + 1]? := hk.block _ (by omega) hlt1
  have g2 : Hs w2 (w.heap.size + 1) 0 (L ++ marks) := fun i x hx j v hv => cell_block eb (G1.out i x hx j v hv)
  have T2 : Hid (w2.there (w.heap.size + 1) 0 (32 * (o.ln + 9))) := (fun j hj => by
    have h1 := T1.out j hj
    have e1 : w2.cell? ⟨w.heap.size + 1, 0 + j, none⟩ = w1.cell? ⟨w.heap.size + 1, 0 + j, none⟩ := World.cell?_of_block eb
    have e2 : w2.frozen? ⟨w.heap.size + 1, 0 + j, none⟩ = w1.frozen? ⟨w.heap.size + 1, 0 + j, none⟩ := by unfold World.frozen?; rw [eb]
    rw [e1, e2]; exact h1 : w2.there (w.heap.size + 1) 0 (32 * (o.ln + 9)))
  have HP := K.Hid.mk' hp
  have HK : Hid (Calls Tryz.prog 42 #[.slice (some ⟨w.heap.size + 1, 0, none⟩) o.ln (o.ln + 9), .slice o.la o.ln o.lc] w2 fun e w' => e = .returned (.bool true) ∧ ∃ m, w' = w2.drewN m) := by
    have := keptH_any (w.heap.size + 1) o.la L o.lc w2 hL32 (by rw [HLL.out]; omega) g2 hby
    rw [HLL.out] at this
    exact this
  clear hp hk hby g2 HC1 G1 eb T1
  go_wp2_with fail
  refine HK.out.mono ?_
  rintro x w3 ⟨rfl, m3, hm3⟩
  have T3 : Hid (w3.there (w.heap.size + 1) 0 (32 * (o.ln + 9))) := by rw [hm3]; exact T2.out
  have F3 : Hid (Fo (w.heap.size + 1) w2 w3) := by rw [hm3]; exact (Fo.refl _ _).drew _
  clear hm3 HK T2 r42 R40 R41
  generalize o.ln = n at *
  have hbu := built7
  have h7 : (7 :: List.replicate 31 0 : List UInt8).length = 32 := rfl
  generalize (7 :: List.replicate 31 0 : List UInt8) = x7 at *
  have H7 := K.Hid.mk' h7
  clear h7
  go_wp2
  go_loopw [10] (fun i wr => ∃ k : Nat, k ≤ n ∧ i = .int .i64 k ∧ Hid (wr.there (w.heap.size + 1) 0 (32 * (n + 9))) ∧ Hid (Fo (w.heap.size + 1) w2 wr)) (fun i _ => n - (intOf i).toNat)
  case atStart => exact ⟨0, Nat.zero_le _, rfl, T3, F3⟩
  case round =>
    obtain ⟨k, hk, rfl, HT, HF⟩ := hrel
    by_cases hkn : k < n
    · have HTH : Hid (wr.there (w.heap.size + 1) (32 * k) 32) := (by have := there_part (m := 32) (i := 32 * k) HT.out (by omega); rwa [Nat.zero_add] at this : wr.there (w.heap.size + 1) (32 * k) 32)
      have ix := fun wx => indexH (w.heap.size + 1) 0 n (n + 9) k wx hkn
      simp only [Nat.zero_add] at ix
      have TS : Hid ((wr.setCells (w.heap.size + 1) (32 * k) (hcs x7)).there (w.heap.size + 1) 0 (32 * (n + 9))) := World.there_setCells HT.out _ _ _
      have FS : Hid (Fo (w.heap.size + 1) w2 (wr.setCells (w.heap.size + 1) (32 * k) (hcs x7))) := HF.out.cells _ _
      go_wp2_with (first
        | (refine wpList_build_is rfl 36 _ rfl [(0, .int .u8 7)] (by first | kernel_rfl | simp) (bs x7) hbu ?_)
        | (refine wpList_store_mid rfl 36 _ _ rfl (w.heap.size + 1) (32 * k) (bs x7) rfl rfl (by rw [bs_size, H7.out]; exact HTH.out) (by rw [bs_size, H7.out]; exact hsH) (bs_one _) ?_)
        | fail)
      go_roundw
      case rel => exact ⟨k + 1, by omega, by go_num, TS, FS⟩
      case measure => simp [intOf]; omega
    · obtain rfl : k = n := by omega
      go_wp2
      go_ret
      exact ⟨rfl, w1, w2, B1.out, hlt1, HP.out, HF.out⟩
end Go.Proofs.YtgiblfhajiakgaaGreatDoor
