import Derived.Test.YtbpmpcmmdiaiiaaDoorP0
import Derived.Test.YtbpmpcmmdiaiiaaDoorP4
import Derived.Test.YtbpmpcmmdiaiiaaDoorP3
import Derived.Laws.FloatArith
import Derived.Below
import Derived.Deep.MidRow
import Derived.BigQuiet
import Derived.WalkKit
import Derived.OwnWalk
import Derived.Maps.AppendAt
import Derived.Deep.OwnRows
import Derived.Deep.RegionWith
import Derived.Deep.RegionHeld3
import Derived.Deep.QuietTactic
import Derived.Laws.Externs
import Derived.WalkLawsBesides
import Derived.Lib.BytesEntry
namespace Go.Proofs.YtbpmpcmmdiaiiaaDoor
open Go.RowKit
set_option linter.unusedVariables false
set_option linter.unusedSimpArgs false

set_option maxRecDepth 100000 in
set_option maxHeartbeats 1000000 in
theorem handH_any (a : Option Addr) (L : List (List UInt8)) (cap : Nat) (w : World) (hL : All32 L) (hn : L.length ≤ 4398046511104) (hl : Hl w a L) :
    Calls Tryd.prog 35 #[.slice a L.length cap] w fun e w' => e = .returned (.slice (some ⟨w.heap.size, 0, none⟩) L.length (L.length + 9)) ∧ Below w.heap.size w w' ∧ w.heap.size < w'.heap.size ∧
      Hs w' w.heap.size 0 (L ++ marks) ∧ w'.there w.heap.size 0 (32 * (L.length + 9)) := by
  obtain ⟨n, hnl⟩ : ∃ n, n = L.length := ⟨_, rfl⟩
  have hmk := make_hashes (n + 9) (by omega) w
  rw [show ((n + 9 : Nat) : Int) = (n : Int) + 9 by omega] at hmk
  have hP : (L ++ marks).length = n + 9 := by rw [List.length_append, marks_len, hnl]
  have hP32 : All32 (L ++ marks) := all32_app hL all32_marks
  have h0 : Hs (w.alloc (.cells (madeCells (bs z32) ((n + 9) * 32)) 31)) w.heap.size 0 (part (L ++ marks) (n + 9) 0) := by rw [part_zero]; exact hs_made w (n + 9) _
  have t0 := there_made w (n + 9) 31
  have HH0 : Hid (Hs (w.alloc (.cells (madeCells (bs z32) ((n + 9) * 32)) 31)) w.heap.size 0 (part (L ++ marks) (n + 9) 0)) := h0
  have HT0 : Hid ((w.alloc (.cells (madeCells (bs z32) ((n + 9) * 32)) 31)).there w.heap.size 0 (32 * (n + 9))) := t0
  clear h0 t0
  rw [← hnl] at hn ⊢
  have HN : Hid (n = L.length) := hnl
  have HPL : Hid ((L ++ marks).length = n + 9) := hP
  clear hnl hP
  go_enter Tryd.func35, Tryd.ntmps35
  go_wp2
  clear hmk
  go_loopw [4] (fun i wr => ∃ k : Nat, k ≤ n ∧ i = .int .i64 k ∧ Hid (Hs wr w.heap.size 0 (part (L ++ marks) (n + 9) k)) ∧ Hid (wr.there w.heap.size 0 (32 * (n + 9))) ∧ Below w.heap.size w wr ∧ w.heap.size < wr.heap.size) (fun i _ => n - (intOf i).toNat)
  case atStart => exact ⟨0, by omega, rfl, HH0, HT0, (Below.refl _ _).alloc (Nat.le_refl _) _, by simp⟩
  case round =>
    obtain ⟨k, hk, rfl, hs, ht, bel, hlt⟩ := hrel
    by_cases hkn : k < n
    · have hkL : k < L.length := by rw [← HN.out]; exact hkn
      obtain ⟨b, off, rfl, hsA⟩ := hl.at hkL
      obtain ⟨x, hx⟩ : ∃ x, L[k]? = some x := ⟨_, List.getElem?_eq_getElem hkL⟩
      have hx32 := hL.get hx
      have hbB : b < w.heap.size := hsA.lt hL (by omega)
      have HR : Hid (wr.rangeAt b (off + 32 * k) (hcs x)) := rangeAt_below (hsA k x hx) bel hbB
      have HX : Hid (Hs (wr.setCells w.heap.size (32 * k) (hcs x)) w.heap.size 0 (part (L ++ marks) (n + 9) (k + 1))) := by
        have := Hs.set hs.out (all32_part hP32 _ _) k x hx32 (by rw [part_len _ _ _ (by omega) HPL.out]; omega) (there_part ht.out (by omega))
        rw [Nat.zero_add] at this
        rwa [part_set _ _ _ (by omega) HPL.out x (by rw [List.getElem?_append_left hkL]; exact hx)] at this
      have ix1 := fun wx => indexH b off n cap k wx hkn
      have ix2 := fun wx => indexH w.heap.size 0 (n + 9) (n + 9) k wx (by omega)
      have HTH : Hid (wr.there w.heap.size (32 * k) 32) := (by have := there_part (m := 32) (i := 32 * k) ht.out (by omega); rwa [Nat.zero_add] at this : wr.there w.heap.size (32 * k) 32)
      clear hl hsA
      go_wp2_with (first
        | (refine wpList_load_mid rfl 31 _ rfl b (off + 32 * k) rfl (hcs x) _ HR.out Tryd.underlying31 rfl (by rw [hcs_len, hx32]; exact hsH) ?_; rw [hcs_arr])
        | (refine wpList_store_mid rfl 31 _ _ rfl w.heap.size (32 * k) (bs x) rfl rfl (by rw [bs_size, hx32]; exact HTH.out) (by rw [bs_size, hx32]; exact hsH) (bs_one _) ?_)
        | fail)
      go_roundw
      case rel => exact ⟨k + 1, by omega, by go_num, HX, World.there_setCells ht.out _ _ _, below_setCells bel (Nat.le_refl _) _ _, by rw [size_setCells]; exact hlt⟩
      case measure => simp [intOf]; omega
    · obtain rfl : k = n := by omega
      go_wp2
      go_loopw [5] (fun i wr => ∃ m : Nat, k ≤ m ∧ m ≤ k + 9 ∧ i = .int .i64 (m : Int) ∧ Hid (Hs wr w.heap.size 0 (part (L ++ marks) (k + 9) m)) ∧ Hid (wr.there w.heap.size 0 (32 * (k + 9))) ∧ Below w.heap.size w wr ∧ w.heap.size < wr.heap.size) (fun i _ => k + 9 - (intOf i).toNat)
      case atStart => exact ⟨k, by omega, by omega, rfl, hs, ht, bel, hlt⟩
      case round =>
        obtain ⟨m, hkm, hm9, rfl, hs, ht, bel, hlt⟩ := hrel
        by_cases hm : m < k + 9
        · obtain ⟨j, hj⟩ : ∃ j : Nat, m = k + j := ⟨m - k, by omega⟩
          have ej : (m : Int) - (k : Int) = (j : Int) := by omega
          have hj9 : j < 9 := by omega
          have HX : Hid (Hs (wr.setCells w.heap.size (32 * m) (hcs (mk j))) w.heap.size 0 (part (L ++ marks) (k + 9) (m + 1))) := by
            have := Hs.set hs.out (all32_part hP32 _ _) m (mk j) (mk_len j) (by rw [part_len _ _ _ (by omega) HPL.out]; omega) (there_part ht.out (by omega))
            rw [Nat.zero_add] at this
            rwa [part_set _ _ _ (by omega) HPL.out (mk j) (by rw [List.getElem?_append_right (by rw [← HN.out]; omega), ← HN.out, hj, Nat.add_sub_cancel_left]; exact marks_get j hj9)] at this
          have ix2 := fun wx => indexH w.heap.size 0 (k + 9) (k + 9) m wx hm
          have HTH : Hid (wr.there w.heap.size (32 * m) 32) := (by have := there_part (m := 32) (i := 32 * m) ht.out (by omega); rwa [Nat.zero_add] at this : wr.there w.heap.size (32 * m) 32)
          have hbu := built_mk j (by omega)
          have HMK : Hid ((mk j).length = 32) := mk_len j
          have HJ : Hid (m = k + j) := hj
          clear hj
          generalize mk j = x at *
          go_wp2_with (first
            | (refine wpList_build_is rfl 31 _ rfl [(0, .int .u8 160), (1, .int .u8 (j : Int))] (by first | kernel_rfl | simp) (bs x) hbu ?_)
            | (refine wpList_store_mid rfl 31 _ _ rfl w.heap.size (32 * m) (bs x) rfl rfl (by rw [bs_size, HMK.out]; exact HTH.out) (by rw [bs_size, HMK.out]; exact hsH) (bs_one _) ?_)
            | fail)
          go_roundw
          case rel => exact ⟨m + 1, by omega, by omega, by go_num, HX, World.there_setCells ht.out _ _ _, below_setCells bel (Nat.le_refl _) _ _, by rw [size_setCells]; exact hlt⟩
          case measure => simp [intOf]; omega
        · obtain rfl : m = k + 9 := by omega
          go_wp2
          go_ret
          refine ⟨rfl, bel, hlt, ?_, ht.out⟩
          have := hs.out
          rwa [part_all _ _ HPL.out] at this
end Go.Proofs.YtbpmpcmmdiaiiaaDoor

namespace Go.Proofs.YtbpmpcmmdiaiiaaDoor
open Go.RowKit
set_option linter.unusedVariables false
set_option linter.unusedSimpArgs false

/-- What is written, as cells. -/
def oL (k b v u n f s r : Value) (h : List UInt8) (l e : Value) : List Value := k :: b :: v :: u :: n :: f :: s :: r :: (hcs h ++ [l, e])
def oC (k b v u n f s r : Value) (h : List UInt8) (l e : Value) : Array Value := (oL k b v u n f s r h l e).toArray
section
variable {k b v u n f s r l e : Value} {h : List UInt8}
theorem oL_len (hh : h.length = 32) : (oL k b v u n f s r h l e).length = 42 := by simp [oL, hcs_len, hh]
theorem oC_40 (hh : h.length = 32) : (oC k b v u n f s r h l e)[40]? = some l := by
  simp [oC, oL]
  rw [List.getElem?_append_right (by rw [hcs_len, hh]; omega), hcs_len, hh]
  rfl
theorem oC_41 (hh : h.length = 32) : (oC k b v u n f s r h l e)[41]? = some e := by
  simp [oC, oL]
  rw [List.getElem?_append_right (by rw [hcs_len, hh]; omega), hcs_len, hh]
  rfl
theorem oC_hash (hh : h.length = 32) (j : Nat) (x : Value) (hx : (hcs h)[j]? = some x) : (oC k b v u n f s r h l e)[8 + j]? = some x := by
  have hj : j < (hcs h).length := (List.getElem?_eq_some_iff.1 hx).1
  unfold oC oL
  rw [show 8 + j = j + 1 + 1 + 1 + 1 + 1 + 1 + 1 + 1 by omega]
  simp only [List.getElem?_toArray, List.getElem?_cons_succ]
  rw [List.getElem?_append_left hj]
  exact hx
end
structure OpAt (w : World) (g : Nat) (k b v u n f s r : Value) (h : List UInt8) (l e : Value) : Prop where
  c0 : w.cell? ⟨g, 0, none⟩ = some k
  c1 : w.cell? ⟨g, 1, none⟩ = some b
  c2 : w.cell? ⟨g, 2, none⟩ = some v
  c3 : w.cell? ⟨g, 3, none⟩ = some u
  c4 : w.cell? ⟨g, 4, none⟩ = some n
  c5 : w.cell? ⟨g, 5, none⟩ = some f
  c6 : w.cell? ⟨g, 6, none⟩ = some s
  c7 : w.cell? ⟨g, 7, none⟩ = some r
  ch : w.rangeAt g 8 (hcs h)
  c40 : w.cell? ⟨g, 40, none⟩ = some l
  c41 : w.cell? ⟨g, 41, none⟩ = some e
theorem opAt_row {w : World} {g : Nat} {k b v u n f s r l e : Value} {h : List UInt8} {C : Array Value} {t : TypeId} {fr : Nat × Nat} (hh : h.length = 32) (hg : w.heap[g]? = some (.cells C t fr)) (hC : C = oC k b v u n f s r h l e) : OpAt w g k b v u n f s r h l e := by
  subst hC
  have key : ∀ i x, (oC k b v u n f s r h l e)[i]? = some x → w.cell? ⟨g, i, none⟩ = some x := fun i x hx => (cell_of_row w g i _ _ _ hg).trans hx
  exact ⟨key 0 _ rfl, key 1 _ rfl, key 2 _ rfl, key 3 _ rfl, key 4 _ rfl, key 5 _ rfl, key 6 _ rfl, key 7 _ rfl, fun j x hx => key (8 + j) x (oC_hash hh j x hx), key 40 _ (oC_40 hh), key 41 _ (oC_41 hh)⟩
theorem cell_block {w w' : World} {g i : Nat} {x : Value} (h : w'.heap[g]? = w.heap[g]?) (hc : w.cell? ⟨g, i, none⟩ = some x) : w'.cell? ⟨g, i, none⟩ = some x := (World.cell?_of_block h).trans hc
/-- What comes in. -/
structure OpV where
  b : Int
  v : Bool
  u : Nat
  n : Int
  f : Nat
  s : ByteArray
  ra : Option Addr
  rn : Nat
  rc : Nat
  h : List UInt8
  la : Option Addr
  ln : Nat
  lc : Nat
  e : Int
def OpV.c (o : OpV) (k : Int) : Array Value := oC (.int .i64 k) (.int .u8 o.b) (.bool o.v) (.int .u64 (o.u : Int)) (.int .i64 o.n) (.float .f64 o.f) (.string o.s) (.slice o.ra o.rn o.rc) o.h (.slice o.la o.ln o.lc) (.int .i64 o.e)
theorem op_block (o : OpV) (hh : o.h.length = 32) (k : Int) (w : World) : ∃ wx, wx = w.alloc (.cells (o.c k) 35) ∧ Below w.heap.size w wx ∧ wx.heap.size = w.heap.size + 1 ∧ OpAt wx w.heap.size (.int .i64 k) (.int .u8 o.b) (.bool o.v) (.int .u64 (o.u : Int)) (.int .i64 o.n) (.float .f64 o.f) (.string o.s) (.slice o.ra o.rn o.rc) o.h (.slice o.la o.ln o.lc) (.int .i64 o.e) :=
  ⟨_, rfl, (Below.refl _ _).alloc (Nat.le_refl _) _, by simp, opAt_row hh (heap_alloc_new _ _) rfl⟩
/-- What stands behind a write. -/
def Wdd (w : World) (Post : World → World → Prop) (w' : World) : Prop := ∃ wx, Below w.heap.size w wx ∧ wx.heap.size = w.heap.size + 1 ∧ Post wx w'

set_option maxRecDepth 100000 in
set_option maxHeartbeats 2000000 in
theorem write_0 (ptr : Option Addr) (o : OpV) (hh : o.h.length = 32) (w : World) (Post : World → World → Prop)
    (H : ∀ wx, Below w.heap.size w wx → wx.heap.size = w.heap.size + 1 → Calls Tryd.prog 28 #[.pointer ptr, .int .u8 o.b] wx fun x w1 => x = .returned (.tuple #[]) ∧ Post wx w1) :
    Calls Tryd.prog 7 #[.pointer ptr, .agg (o.c 0)] w fun x w' => x = .returned (.bool true) ∧ Wdd w Post w' := by
  obtain ⟨wx, hwx, bx, sx, ⟨r0, r1, r2, r3, r4, r5, r6, r7, rh, r40, r41⟩⟩ := op_block o hh 0 w
  have HC := K.Hid.mk' (H wx bx sx)
  have BX := K.Hid.mk' bx
  have SX := K.Hid.mk' sx
  have PH := K.Hid.mk' rh
  clear H bx sx rh
  generalize o.c 0 = C at *
  go_enter Tryd.func7, Tryd.ntmps7
  go_upto_region 1 with fail
  rw [← hwx]
  clear hwx
  go_wp2_with fail
  refine HC.out.mono ?_
  rintro x w1 ⟨rfl, hp⟩
  have HP := K.Hid.mk' hp
  clear hp HC r0 r1 r2 r3 r4 r5 r6 r7 r40 r41
  go_wp2
  go_ret
  exact ⟨rfl, _, BX.out, SX.out, HP.out⟩

set_option maxRecDepth 100000 in
set_option maxHeartbeats 2000000 in
theorem write_1 (ptr : Option Addr) (o : OpV) (hh : o.h.length = 32) (w : World) (Post : World → World → Prop)
    (H : ∀ wx, Below w.heap.size w wx → wx.heap.size = w.heap.size + 1 → Calls Tryd.prog 29 #[.pointer ptr, .bool o.v] wx fun x w1 => x = .returned (.tuple #[]) ∧ Post wx w1) :
    Calls Tryd.prog 7 #[.pointer ptr, .agg (o.c 1)] w fun x w' => x = .returned (.bool true) ∧ Wdd w Post w' := by
  obtain ⟨wx, hwx, bx, sx, ⟨r0, r1, r2, r3, r4, r5, r6, r7, rh, r40, r41⟩⟩ := op_block o hh 1 w
  have HC := K.Hid.mk' (H wx bx sx)
  have BX := K.Hid.mk' bx
  have SX := K.Hid.mk' sx
  have PH := K.Hid.mk' rh
  clear H bx sx rh
  generalize o.c 1 = C at *
  go_enter Tryd.func7, Tryd.ntmps7
  go_upto_region 1 with fail
  rw [← hwx]
  clear hwx
  go_wp2_with fail
  refine HC.out.mono ?_
  rintro x w1 ⟨rfl, hp⟩
  have HP := K.Hid.mk' hp
  clear hp HC r0 r1 r2 r3 r4 r5 r6 r7 r40 r41
  go_wp2
  go_ret
  exact ⟨rfl, _, BX.out, SX.out, HP.out⟩

set_option maxRecDepth 100000 in
set_option maxHeartbeats 2000000 in
theorem write_2 (ptr : Option Addr) (o : OpV) (hh : o.h.length = 32) (w : World) (Post : World → World → Prop)
    (H : ∀ wx, Below w.heap.size w wx → wx.heap.size = w.heap.size + 1 → Calls Tryd.prog 30 #[.pointer ptr, .int .u32 ((o.u : Int) % 4294967296)] wx fun x w1 => x = .returned (.tuple #[]) ∧ Post wx w1) :
    Calls Tryd.prog 7 #[.pointer ptr, .agg (o.c 2)] w fun x w' => x = .returned (.bool true) ∧ Wdd w Post w' := by
  obtain ⟨wx, hwx, bx, sx, ⟨r0, r1, r2, r3, r4, r5, r6, r7, rh, r40, r41⟩⟩ := op_block o hh 2 w
  have HC : Hid (∀ q : Int, q = (o.u : Int) % 4294967296 → Calls Tryd.prog 30 #[.pointer ptr, .int .u32 q] wx fun x w1 => x = .returned (.tuple #[]) ∧ Post wx w1) := fun q hq => by rw [hq]; exact H wx bx sx
  have BX := K.Hid.mk' bx
  have SX := K.Hid.mk' sx
  have PH := K.Hid.mk' rh
  clear H bx sx rh
  generalize o.c 2 = C at *
  go_enter Tryd.func7, Tryd.ntmps7
  go_upto_region 1 with fail
  rw [← hwx]
  clear hwx
  go_wp2_with fail
  refine (HC.out _ (by first | rfl | (simp only [IntKind.wrap_u32]))).mono ?_
  rintro x w1 ⟨rfl, hp⟩
  have HP := K.Hid.mk' hp
  clear hp HC r0 r1 r2 r3 r4 r5 r6 r7 r40 r41
  go_wp2
  go_ret
  exact ⟨rfl, _, BX.out, SX.out, HP.out⟩

set_option maxRecDepth 100000 in
set_option maxHeartbeats 2000000 in
theorem write_3 (ptr : Option Addr) (o : OpV) (hh : o.h.length = 32) (w : World) (Post : World → World → Prop)
    (H : ∀ wx, Below w.heap.size w wx → wx.heap.size = w.heap.size + 1 → Calls Tryd.prog 20 #[.pointer ptr, .int .u64 (o.u : Int)] wx fun x w1 => x = .returned (.tuple #[]) ∧ Post wx w1) :
    Calls Tryd.prog 7 #[.pointer ptr, .agg (o.c 3)] w fun x w' => x = .returned (.bool true) ∧ Wdd w Post w' := by
  obtain ⟨wx, hwx, bx, sx, ⟨r0, r1, r2, r3, r4, r5, r6, r7, rh, r40, r41⟩⟩ := op_block o hh 3 w
  have HC := K.Hid.mk' (H wx bx sx)
  have BX := K.Hid.mk' bx
  have SX := K.Hid.mk' sx
  have PH := K.Hid.mk' rh
  clear H bx sx rh
  generalize o.c 3 = C at *
  go_enter Tryd.func7, Tryd.ntmps7
  go_upto_region 1 with fail
  rw [← hwx]
  clear hwx
  go_wp2_with fail
  refine HC.out.mono ?_
  rintro x w1 ⟨rfl, hp⟩
  have HP := K.Hid.mk' hp
  clear hp HC r0 r1 r2 r3 r4 r5 r6 r7 r40 r41
  go_wp2
  go_ret
  exact ⟨rfl, _, BX.out, SX.out, HP.out⟩

set_option maxRecDepth 100000 in
set_option maxHeartbeats 2000000 in
theorem write_4 (ptr : Option Addr) (o : OpV) (hh : o.h.length = 32) (w : World) (Post : World → World → Prop)
    (H : ∀ wx, Below w.heap.size w wx → wx.heap.size = w.heap.size + 1 → Calls Tryd.prog 21 #[.pointer ptr, .int .i64 o.n] wx fun x w1 => x = .returned (.tuple #[]) ∧ Post wx w1) :
    Calls Tryd.prog 7 #[.pointer ptr, .agg (o.c 4)] w fun x w' => x = .returned (.bool true) ∧ Wdd w Post w' := by
  obtain ⟨wx, hwx, bx, sx, ⟨r0, r1, r2, r3, r4, r5, r6, r7, rh, r40, r41⟩⟩ := op_block o hh 4 w
  have HC := K.Hid.mk' (H wx bx sx)
  have BX := K.Hid.mk' bx
  have SX := K.Hid.mk' sx
  have PH := K.Hid.mk' rh
  clear H bx sx rh
  generalize o.c 4 = C at *
  go_enter Tryd.func7, Tryd.ntmps7
  go_upto_region 1 with fail
  rw [← hwx]
  clear hwx
  go_wp2_with fail
  refine HC.out.mono ?_
  rintro x w1 ⟨rfl, hp⟩
  have HP := K.Hid.mk' hp
  clear hp HC r0 r1 r2 r3 r4 r5 r6 r7 r40 r41
  go_wp2
  go_ret
  exact ⟨rfl, _, BX.out, SX.out, HP.out⟩

set_option maxRecDepth 100000 in
set_option maxHeartbeats 2000000 in
theorem write_5 (ptr : Option Addr) (o : OpV) (hh : o.h.length = 32) (w : World) (Post : World → World → Prop)
    (H : ∀ wx, Below w.heap.size w wx → wx.heap.size = w.heap.size + 1 → Calls Tryd.prog 23 #[.pointer ptr, .float .f64 o.f] wx fun x w1 => x = .returned (.tuple #[]) ∧ Post wx w1) :
    Calls Tryd.prog 7 #[.pointer ptr, .agg (o.c 5)] w fun x w' => x = .returned (.bool true) ∧ Wdd w Post w' := by
  obtain ⟨wx, hwx, bx, sx, ⟨r0, r1, r2, r3, r4, r5, r6, r7, rh, r40, r41⟩⟩ := op_block o hh 5 w
  have HC := K.Hid.mk' (H wx bx sx)
  have BX := K.Hid.mk' bx
  have SX := K.Hid.mk' sx
  have PH := K.Hid.mk' rh
  clear H bx sx rh
  generalize o.c 5 = C at *
  go_enter Tryd.func7, Tryd.ntmps7
  go_upto_region 1 with fail
  rw [← hwx]
  clear hwx
  go_wp2_with fail
  refine HC.out.mono ?_
  rintro x w1 ⟨rfl, hp⟩
  have HP := K.Hid.mk' hp
  clear hp HC r0 r1 r2 r3 r4 r5 r6 r7 r40 r41
  go_wp2
  go_ret
  exact ⟨rfl, _, BX.out, SX.out, HP.out⟩

set_option maxRecDepth 100000 in
set_option maxHeartbeats 2000000 in
theorem write_6 (ptr : Option Addr) (o : OpV) (hh : o.h.length = 32) (w : World) (Post : World → World → Prop)
    (H : ∀ wx, Below w.heap.size w wx → wx.heap.size = w.heap.size + 1 → Calls Tryd.prog 22 #[.pointer ptr, .string o.s] wx fun x w1 => x = .returned (.tuple #[]) ∧ Post wx w1) :
    Calls Tryd.prog 7 #[.pointer ptr, .agg (o.c 6)] w fun x w' => x = .returned (.bool true) ∧ Wdd w Post w' := by
  obtain ⟨wx, hwx, bx, sx, ⟨r0, r1, r2, r3, r4, r5, r6, r7, rh, r40, r41⟩⟩ := op_block o hh 6 w
  have HC := K.Hid.mk' (H wx bx sx)
  have BX := K.Hid.mk' bx
  have SX := K.Hid.mk' sx
  have PH := K.Hid.mk' rh
  clear H bx sx rh
  generalize o.c 6 = C at *
  go_enter Tryd.func7, Tryd.ntmps7
  go_upto_region 1 with fail
  rw [← hwx]
  clear hwx
  go_wp2_with fail
  refine HC.out.mono ?_
  rintro x w1 ⟨rfl, hp⟩
  have HP := K.Hid.mk' hp
  clear hp HC r0 r1 r2 r3 r4 r5 r6 r7 r40 r41
  go_wp2
  go_ret
  exact ⟨rfl, _, BX.out, SX.out, HP.out⟩

set_option maxRecDepth 100000 in
set_option maxHeartbeats 2000000 in
theorem write_8 (ptr : Option Addr) (o : OpV) (hh : o.h.length = 32) (w : World) (Post : World → World → Prop)
    (H : ∀ wx, Below w.heap.size w wx → wx.heap.size = w.heap.size + 1 → Calls Tryd.prog 34 #[.pointer ptr, .agg (bs o.h)] wx fun x w1 => x = .returned (.tuple #[]) ∧ Post wx w1) :
    Calls Tryd.prog 7 #[.pointer ptr, .agg (o.c 8)] w fun x w' => x = .returned (.bool true) ∧ Wdd w Post w' := by
  obtain ⟨wx, hwx, bx, sx, ⟨r0, r1, r2, r3, r4, r5, r6, r7, rh, r40, r41⟩⟩ := op_block o hh 8 w
  have HC := K.Hid.mk' (H wx bx sx)
  have BX := K.Hid.mk' bx
  have SX := K.Hid.mk' sx
  have PH := K.Hid.mk' rh
  clear H bx sx rh
  generalize o.c 8 = C at *
  go_enter Tryd.func7, Tryd.ntmps7
  go_upto_region 1 with fail
  rw [← hwx]
  clear hwx
  go_wp2_with (first
    | (refine wpList_load_midG rfl 31 _ rfl w.heap.size 8 rfl (hcs o.h) _ PH.out Tryd.underlying31 rfl (by rw [hcs_len, hh]; exact hsH) ?_; rw [hcs_arr])
    | fail)
  refine HC.out.mono ?_
  rintro x w1 ⟨rfl, hp⟩
  have HP := K.Hid.mk' hp
  clear hp HC r0 r1 r2 r3 r4 r5 r6 r7 r40 r41
  go_wp2
  go_ret
  exact ⟨rfl, _, BX.out, SX.out, HP.out⟩

set_option maxRecDepth 100000 in
set_option maxHeartbeats 2000000 in
theorem write_10 (ptr : Option Addr) (o : OpV) (hh : o.h.length = 32) (w : World) (Post : World → World → Prop)
    (H : ∀ wx, Below w.heap.size w wx → wx.heap.size = w.heap.size + 1 → Calls Tryd.prog 38 #[.pointer ptr, .int .i64 o.e] wx fun x w1 => x = .returned (.tuple #[]) ∧ Post wx w1) :
    Calls Tryd.prog 7 #[.pointer ptr, .agg (o.c 10)] w fun x w' => x = .returned (.bool true) ∧ Wdd w Post w' := by
  obtain ⟨wx, hwx, bx, sx, ⟨r0, r1, r2, r3, r4, r5, r6, r7, rh, r40, r41⟩⟩ := op_block o hh 10 w
  have HC := K.Hid.mk' (H wx bx sx)
  have BX := K.Hid.mk' bx
  have SX := K.Hid.mk' sx
  have PH := K.Hid.mk' rh
  clear H bx sx rh
  generalize o.c 10 = C at *
  go_enter Tryd.func7, Tryd.ntmps7
  go_upto_region 1 with fail
  rw [← hwx]
  clear hwx
  go_wp2_with fail
  refine HC.out.mono ?_
  rintro x w1 ⟨rfl, hp⟩
  have HP := K.Hid.mk' hp
  clear hp HC r0 r1 r2 r3 r4 r5 r6 r7 r40 r41
  go_wp2
  go_ret
  exact ⟨rfl, _, BX.out, SX.out, HP.out⟩

set_option maxRecDepth 100000 in
set_option maxHeartbeats 2000000 in
theorem write_no (ptr : Option Addr) (o : OpV) (hh : o.h.length = 32) (k : Int) (hk : k < 0 ∨ 10 < k) (w : World) :
    Calls Tryd.prog 7 #[.pointer ptr, .agg (o.c k)] w fun x w' => x = .returned (.bool true) ∧ Wdd w (fun wx w1 => w1 = wx) w' := by
  obtain ⟨wx, hwx, bx, sx, ⟨r0, r1, r2, r3, r4, r5, r6, r7, rh, r40, r41⟩⟩ := op_block o hh k w
  have BX := K.Hid.mk' bx
  have SX := K.Hid.mk' sx
  have k0 : ¬ k = 0 := by omega
  have k1 : ¬ k = 1 := by omega
  have k2 : ¬ k = 2 := by omega
  have k3 : ¬ k = 3 := by omega
  have k4 : ¬ k = 4 := by omega
  have k5 : ¬ k = 5 := by omega
  have k6 : ¬ k = 6 := by omega
  have k7 : ¬ k = 7 := by omega
  have k8 : ¬ k = 8 := by omega
  have k9 : ¬ k = 9 := by omega
  have k10 : ¬ k = 10 := by omega
  clear bx sx rh hk
  generalize o.c k = C at *
  go_enter Tryd.func7, Tryd.ntmps7
  go_upto_region 1 with fail
  rw [← hwx]
  clear hwx
  go_wp2
  go_ret
  exact ⟨rfl, _, BX.out, SX.out, rfl⟩
end Go.Proofs.YtbpmpcmmdiaiiaaDoor

namespace Go.Proofs.YtbpmpcmmdiaiiaaDoor
open Go.RowKit
set_option linter.unusedVariables false
set_option linter.unusedSimpArgs false

/-- All blocks but one are as they were. -/
structure Fo (g : Nat) (w w' : World) : Prop where
  os : w'.os = w.os
  tape : w'.tape = w.tape
  output : w'.output = w.output
  size : w.heap.size ≤ w'.heap.size
  block : ∀ k, k ≠ g → k < w.heap.size → w'.heap[k]? = w.heap[k]?
theorem Fo.refl (g : Nat) (w : World) : Fo g w w := ⟨rfl, rfl, rfl, Nat.le_refl _, fun _ _ _ => rfl⟩
theorem Fo.drew {g : Nat} {w w' : World} (h : Fo g w w') (m : Nat) : Fo g w (w'.drewN m) := ⟨h.os, h.tape, h.output, h.size, h.block⟩
theorem Fo.cell {g : Nat} {w w' : World} (h : Fo g w w') (i : Nat) (v : Value) : Fo g w (w'.setCell ⟨g, i, none⟩ v) := ⟨h.os, h.tape, h.output, by rw [World.size_setCell]; exact h.size, fun k h1 h2 => (Below.heap_setCell _ _ _ _ h1).trans (h.block k h1 h2)⟩
theorem Fo.cells {g : Nat} {w w' : World} (h : Fo g w w') (o : Nat) (vs : List Value) : Fo g w (w'.setCells g o vs) := by
  induction vs generalizing w' o with
  | nil => exact h
  | cons v r ih => exact ih (h.cell o v) (o + 1)
/-- What stands behind a write of a list. -/
def Wee (w : World) (Post : World → World → Prop) (w' : World) : Prop := ∃ wx w1, Below w.heap.size w wx ∧ w.heap.size + 1 < wx.heap.size ∧ Post wx w1 ∧ Fo (w.heap.size + 1) w1 w'
/-- A row of n bytes. -/
def Byr (w : World) (g n : Nat) : Prop := ∃ C : Array Value, w.heap[g]? = some (.cells C 5 (0, 0)) ∧ ∀ j, j < n → ∃ q : Int, C[j]? = some (.int .u8 q)
theorem Byr.set {w : World} {g n : Nat} (h : Byr w g n) (k : Nat) (q : Int) : Byr (w.setCell ⟨g, k, none⟩ (.int .u8 q)) g n := by
  obtain ⟨C, h1, h2⟩ := h
  refine ⟨_, heap_setCell_same w g k _ 5 _ h1, fun j hj => ?_⟩
  by_cases e : k = j
  · subst e
    obtain ⟨q0, hq⟩ := h2 k hj
    have hk : k < C.size := (Array.getElem?_eq_some_iff.1 hq).1
    exact ⟨q, by simp [hk]⟩
  · rw [Array.getElem?_setIfInBounds_ne e]
    exact h2 j hj

set_option maxRecDepth 100000 in
set_option maxHeartbeats 2000000 in
theorem write_7 (ptr : Option Addr) (o : OpV) (hh : o.h.length = 32) (R : List UInt8) (hR : R.length = o.rn) (hn : o.rn ≤ 140737488351232) (w : World) (hb : K.Byt w o.ra R) (Post : World → World → Prop)
    (H : ∀ wx, Below w.heap.size w wx → w.heap.size + 1 < wx.heap.size → wx.heap[w.heap.size + 1]? = some (.cells (bs (R ++ K.marks)) 5 (0, 0)) → Calls Tryd.prog 32 #[.pointer ptr, .slice (some ⟨w.heap.size + 1, 0, none⟩) o.rn (o.rn + 9)] wx fun x w1 => x = .returned (.tuple #[]) ∧ Post wx w1 ∧ Keeps w.heap.size wx w1 ∧ K.Byt w1 o.ra R) :
    Calls Tryd.prog 7 #[.pointer ptr, .agg (o.c 7)] w fun x w' => x = .returned (.bool true) ∧ Wee w Post w' := by
  obtain ⟨wx, hwx, bx, sx, ⟨r0, r1, r2, r3, r4, r5, r6, r7, rh, r40, r41⟩⟩ := op_block o hh 7 w
  have HH : Hid (Calls Tryd.prog 31 #[.slice o.ra o.rn o.rc] wx fun e w' => e = .returned (.slice (some ⟨w.heap.size + 1, 0, none⟩) o.rn (o.rn + 9)) ∧ w'.heap[w.heap.size + 1]? = some (.cells (bs (R ++ K.marks)) 5 (0, 0)) ∧ Below w.heap.size w w' ∧ Below wx.heap.size wx w') := by
    have := K.hand_any o.ra R o.rc wx (K.byt_below hb bx) (by omega)
    rw [hR, sx] at this
    exact this.mono fun e w' h => ⟨h.1, h.2.1, bx.trans (h.2.2.mono (by omega)), by rw [sx]; exact h.2.2⟩
  have HC := K.Hid.mk' H
  have SX := K.Hid.mk' sx
  have HB := K.Hid.mk' hb
  have HR := K.Hid.mk' hR
  have R7 := K.Hid.mk' r7
  have E0 : Hid (w.heap.size < wx.heap.size) := by show _ < _; omega
  clear H bx sx hb hR r1 r2 r3 r4 r5 r6 rh r40 r41
  generalize o.c 7 = C at *
  go_enter Tryd.func7, Tryd.ntmps7
  go_upto_region 1 with fail
  rw [← hwx]
  clear hwx
  go_wp2_with fail
  refine HH.out.mono ?_
  rintro x w1 ⟨rfl, g1, b1, bx1⟩
  have hlt1 : w.heap.size + 1 < w1.heap.size := (Array.getElem?_eq_some_iff.1 g1).1
  have HC1 := K.Hid.mk' (HC.out w1 b1 hlt1 g1)
  have G1 := K.Hid.mk' g1
  have B1 := K.Hid.mk' b1
  have R71 : Hid (w1.cell? ⟨w.heap.size, 7, none⟩ = some (.slice o.ra o.rn o.rc)) := by show _ = _; rw [bx1.cell (p := ⟨w.heap.size, 7, none⟩) E0.out]; exact R7.out
  clear HC HH g1 b1 bx1 r0 r7
  go_wp2_with fail
  refine HC1.out.mono ?_
  rintro x w2 ⟨rfl, hp, hk, hby⟩
  have hlt2 : w.heap.size + 1 < w2.heap.size := by have := hk.size; omega
  have r72 : w2.cell? ⟨w.heap.size, 7, none⟩ = some (.slice o.ra o.rn o.rc) := cell_block (hk.block _ (Nat.le_refl _) (by omega)) R71.out
  have g2 : w2.heap[w.heap.size + 1]? = some (.cells (bs (R ++ K.marks)) 5 (0, 0)) := by rw [hk.block _ (by omega) hlt1]; exact G1.out
  have HP := K.Hid.mk' hp
  have HK : Hid (Calls Tryd.prog 33 #[.slice (some ⟨w.heap.size + 1, 0, none⟩) o.rn (o.rn + 9), .slice o.ra o.rn o.rc] w2 fun e w' => e = .returned (.bool true) ∧ ∃ m, w' = w2.drewN m) := by
    have := K.kept_any (w.heap.size + 1) o.ra R o.rc w2 g2 hby (by rw [HR.out]; exact hn)
    rw [HR.out] at this
    exact this
  have Y2 : Hid (Byr w2 (w.heap.size + 1) (o.rn + 9)) := ⟨_, g2, fun j hj => ⟨_, bs_get _ j (by simp [K.marks, HR.out]; omega)⟩⟩
  clear hp hk hby g2 HC1 G1
  go_wp2_with fail
  refine HK.out.mono ?_
  rintro x w3 ⟨rfl, m3, hm3⟩
  have Y3 : Hid (Byr w3 (w.heap.size + 1) (o.rn + 9)) := by rw [hm3]; exact Y2.out
  have F3 : Hid (Fo (w.heap.size + 1) w2 w3) := by rw [hm3]; exact (Fo.refl _ _).drew _
  clear hm3 HK Y2 r72 R7 R71 HB
  generalize o.rn = n at *
  go_wp2
  go_loopw [7] (fun i wr => ∃ k : Nat, k ≤ n ∧ i = .int .i64 k ∧ Hid (Byr wr (w.heap.size + 1) (n + 9)) ∧ Hid (Fo (w.heap.size + 1) w2 wr)) (fun i _ => n - (intOf i).toNat)
  case atStart => exact ⟨0, Nat.zero_le _, rfl, Y3, F3⟩
  case round =>
    obtain ⟨k, hk, rfl, HY, HF⟩ := hrel
    by_cases hkn : k < n
    · obtain ⟨C, hg, hcs⟩ := HY.out
      obtain ⟨q, hq⟩ := hcs k (by omega)
      have hc := (cell_of_row wr (w.heap.size + 1) k _ _ _ hg).trans hq
      have hf := frozen_of_row wr (w.heap.size + 1) k _ _ hg
      have YS : Hid (∀ v : Int, Byr (wr.setCell ⟨w.heap.size + 1, k, none⟩ (.int .u8 v)) (w.heap.size + 1) (n + 9)) := fun v => HY.out.set k v
      have FS : Hid (∀ v : Value, Fo (w.heap.size + 1) w2 (wr.setCell ⟨w.heap.size + 1, k, none⟩ v)) := fun v => HF.out.cell k v
      clear hcs hg hq
      go_wp2
      go_roundw
      case rel => exact ⟨k + 1, by omega, by go_num, YS.out _, FS.out _⟩
      case measure => simp [intOf]; omega
    · obtain rfl : k = n := by omega
      go_wp2
      go_ret
      exact ⟨rfl, w1, w2, B1.out, hlt1, HP.out, HF.out⟩

theorem built7 : Tryd.prog.built 31 [(0, .int .u8 7)] = some (bs (7 :: List.replicate 31 0)) := by kernel_rfl

set_option maxRecDepth 100000 in
set_option maxHeartbeats 2000000 in
theorem write_9 (ptr : Option Addr) (o : OpV) (hh : o.h.length = 32) (L : List (List UInt8)) (hL32 : All32 L) (hL : L.length = o.ln) (hn : o.ln ≤ 4398046510976) (w : World) (hb : Hl w o.la L) (Post : World → World → Prop)
    (H : ∀ wx, Below w.heap.size w wx → w.heap.size + 1 < wx.heap.size → Hs wx (w.heap.size + 1) 0 L → Calls Tryd.prog 36 #[.pointer ptr, .slice (some ⟨w.heap.size + 1, 0, none⟩) o.ln (o.ln + 9)] wx fun x w1 => x = .returned (.tuple #[]) ∧ Post wx w1 ∧ Keeps w.heap.size wx w1 ∧ Hl w1 o.la L) :
    Calls Tryd.prog 7 #[.pointer ptr, .agg (o.c 9)] w fun x w' => x = .returned (.bool true) ∧ Wee w Post w' := by
  obtain ⟨wx, hwx, bx, sx, ⟨r0, r1, r2, r3, r4, r5, r6, r7, rh, r40, r41⟩⟩ := op_block o hh 9 w
  have HH : Hid (Calls Tryd.prog 35 #[.slice o.la o.ln o.lc] wx fun e w' => e = .returned (.slice (some ⟨w.heap.size + 1, 0, none⟩) o.ln (o.ln + 9)) ∧ Hs w' (w.heap.size + 1) 0 (L ++ marks) ∧ w'.there (w.heap.size + 1) 0 (32 * (o.ln + 9)) ∧ w.heap.size + 1 < w'.heap.size ∧ Below w.heap.size w w' ∧ Below wx.heap.size wx w') := by
    have := handH_any o.la L o.lc wx hL32 (by omega) (hb.below hL32 bx)
    rw [hL, sx] at this
    exact this.mono fun e w' h => ⟨h.1, h.2.2.2.1, h.2.2.2.2, h.2.2.1, bx.trans (h.2.1.mono (by omega)), by rw [sx]; exact h.2.1⟩
  have HC := K.Hid.mk' H
  have SX := K.Hid.mk' sx
  have HLL := K.Hid.mk' hL
  have R40 := K.Hid.mk' r40
  have E0 : Hid (w.heap.size < wx.heap.size) := by show _ < _; omega
  clear H bx sx hb hL r1 r2 r3 r4 r5 r6 r7 rh r41
  generalize o.c 9 = C at *
  go_enter Tryd.func7, Tryd.ntmps7
  go_upto_region 1 with fail
  rw [← hwx]
  clear hwx
  go_wp2_with fail
  refine HH.out.mono ?_
  rintro x w1 ⟨rfl, g1, t1, hlt1, b1, bx1⟩
  have HC1 := K.Hid.mk' (HC.out w1 b1 hlt1 (hs_app g1))
  have G1 := K.Hid.mk' g1
  have T1 := K.Hid.mk' t1
  have B1 := K.Hid.mk' b1
  have R41 : Hid (w1.cell? ⟨w.heap.size, 40, none⟩ = some (.slice o.la o.ln o.lc)) := by show _ = _; rw [bx1.cell (p := ⟨w.heap.size, 40, none⟩) E0.out]; exact R40.out
  clear HC HH g1 t1 b1 bx1 r0 r40
  go_wp2_with fail
  refine HC1.out.mono ?_
  rintro x w2 ⟨rfl, hp, hk, hby⟩
  have hlt2 : w.heap.size + 1 < w2.heap.size := by have := hk.size; omega
  have r42 : w2.cell? ⟨w.heap.size, 40, none⟩ = some (.slice o.la o.ln o.lc) := cell_block (hk.block _ (Nat.le_refl _) (by omega)) R41.out
  have eb : w2.heap[w.heap.size + 1]? = w1.heap[w.heap.size + 1]? := hk.block _ (by omega) hlt1
  have g2 : Hs w2 (w.heap.size + 1) 0 (L ++ marks) := fun i x hx j v hv => cell_block eb (G1.out i x hx j v hv)
  have T2 : Hid (w2.there (w.heap.size + 1) 0 (32 * (o.ln + 9))) := (fun j hj => by
    have h1 := T1.out j hj
    have e1 : w2.cell? ⟨w.heap.size + 1, 0 + j, none⟩ = w1.cell? ⟨w.heap.size + 1, 0 + j, none⟩ := World.cell?_of_block eb
    have e2 : w2.frozen? ⟨w.heap.size + 1, 0 + j, none⟩ = w1.frozen? ⟨w.heap.size + 1, 0 + j, none⟩ := by unfold World.frozen?; rw [eb]
    rw [e1, e2]; exact h1 : w2.there (w.heap.size + 1) 0 (32 * (o.ln + 9)))
  have HP := K.Hid.mk' hp
  have HK : Hid (Calls Tryd.prog 37 #[.slice (some ⟨w.heap.size + 1, 0, none⟩) o.ln (o.ln + 9), .slice o.la o.ln o.lc] w2 fun e w' => e = .returned (.bool true) ∧ ∃ m, w' = w2.drewN m) := by
    have := keptH_any (w.heap.size + 1) o.la L o.lc w2 hL32 (by rw [HLL.out]; omega) g2 hby
    rw [HLL.out] at this
    exact this
  clear hp hk hby g2 HC1 G1 eb T1
  go_wp2_with fail
  refine HK.out.mono ?_
  rintro x w3 ⟨rfl, m3, hm3⟩
  have T3 : Hid (w3.there (w.heap.size + 1) 0 (32 * (o.ln + 9))) := by rw [hm3]; exact T2.out
  have F3 : Hid (Fo (w.heap.size + 1) w2 w3) := by rw [hm3]; exact (Fo.refl _ _).drew _
  clear hm3 HK T2 r42 R40 R41
  generalize o.ln = n at *
  have hbu := built7
  have h7 : (7 :: List.replicate 31 0 : List UInt8).length = 32 := rfl
  generalize (7 :: List.replicate 31 0 : List UInt8) = x7 at *
  have H7 := K.Hid.mk' h7
  clear h7
  go_wp2
  go_loopw [10] (fun i wr => ∃ k : Nat, k ≤ n ∧ i = .int .i64 k ∧ Hid (wr.there (w.heap.size + 1) 0 (32 * (n + 9))) ∧ Hid (Fo (w.heap.size + 1) w2 wr)) (fun i _ => n - (intOf i).toNat)
  case atStart => exact ⟨0, Nat.zero_le _, rfl, T3, F3⟩
  case round =>
    obtain ⟨k, hk, rfl, HT, HF⟩ := hrel
    by_cases hkn : k < n
    · have HTH : Hid (wr.there (w.heap.size + 1) (32 * k) 32) := (by have := there_part (m := 32) (i := 32 * k) HT.out (by omega); rwa [Nat.zero_add] at this : wr.there (w.heap.size + 1) (32 * k) 32)
      have ix := fun wx => indexH (w.heap.size + 1) 0 n (n + 9) k wx hkn
      simp only [Nat.zero_add] at ix
      have TS : Hid ((wr.setCells (w.heap.size + 1) (32 * k) (hcs x7)).there (w.heap.size + 1) 0 (32 * (n + 9))) := World.there_setCells HT.out _ _ _
      have FS : Hid (Fo (w.heap.size + 1) w2 (wr.setCells (w.heap.size + 1) (32 * k) (hcs x7))) := HF.out.cells _ _
      go_wp2_with (first
        | (refine wpList_build_is rfl 31 _ rfl [(0, .int .u8 7)] (by first | kernel_rfl | simp) (bs x7) hbu ?_)
        | (refine wpList_store_mid rfl 31 _ _ rfl (w.heap.size + 1) (32 * k) (bs x7) rfl rfl (by rw [bs_size, H7.out]; exact HTH.out) (by rw [bs_size, H7.out]; exact hsH) (bs_one _) ?_)
        | fail)
      go_roundw
      case rel => exact ⟨k + 1, by omega, by go_num, TS, FS⟩
      case measure => simp [intOf]; omega
    · obtain rfl : k = n := by omega
      go_wp2
      go_ret
      exact ⟨rfl, w1, w2, B1.out, hlt1, HP.out, HF.out⟩
end Go.Proofs.YtbpmpcmmdiaiiaaDoor

namespace Go.Proofs.YtbpmpcmmdiaiiaaDoor
open Go.RowKit
set_option linter.unusedVariables false
set_option linter.unusedSimpArgs false

theorem bel2 (w : World) (a b : Obj) : Below w.heap.size w ((w.alloc a).alloc b) := ((Below.refl _ _).alloc (Nat.le_refl _) _).alloc (by simp) _
set_option maxRecDepth 100000 in
set_option maxHeartbeats 1000000 in
theorem sameV0 (w : World) : Calls Tryd.prog 40 #[K.VV 0 0 0 ⟨#[]⟩, K.VV 0 0 0 ⟨#[]⟩] w fun e w' => e = .returned (.bool true) ∧ Below w.heap.size w w' := by
  have z1 : (FloatKind.f64.format.order 0 0 == some .eq) = true := by decide +kernel
  have z2 : (FloatKind.f64.format.order 0 0 != some .eq) = false := by decide +kernel
  have z3 : (FloatKind.f64.format.order 9218868437227405312 9218868437227405312 == some .eq) = true := by decide +kernel
  have hq : ∀ W, (binOp .quo 28 (.float .f64 4607182418800017408) (.float .f64 0)).run Tryd.prog W = .ok (.float .f64 9218868437227405312) W := fun W => run_float_arith W .quo 28 .f64 _ _ _ (by decide +kernel)
  unfold K.VV
  go_enter Tryd.func40, Tryd.ntmps40
  go_wp2
  go_ret
  exact ⟨rfl, bel2 _ _ _⟩
set_option maxRecDepth 100000 in
set_option maxHeartbeats 1000000 in
theorem sameVn (f : Nat) (z1 : (FloatKind.f64.format.order f f == some .eq) = true) (z3 : (FloatKind.f64.format.order f 0 == some .eq) = false) (w : World) : Calls Tryd.prog 40 #[K.VV 0 0 f ⟨#[]⟩, K.VV 0 0 f ⟨#[]⟩] w fun e w' => e = .returned (.bool true) ∧ Below w.heap.size w w' := by
  have z2 : (FloatKind.f64.format.order f f != some .eq) = false := by rw [bne, z1]; rfl
  have z4 : (FloatKind.f64.format.order f 0 != some .eq) = true := by rw [bne, z3]; rfl
  unfold K.VV
  go_enter Tryd.func40, Tryd.ntmps40
  go_wp2
  go_ret
  exact ⟨rfl, bel2 _ _ _⟩
end Go.Proofs.YtbpmpcmmdiaiiaaDoor

namespace Go.Proofs.YtbpmpcmmdiaiiaaDoor
open Go.RowKit
set_option linter.unusedVariables false

/-- A world in which all that was there in 'w' is as it was. -/
structure ExtT (w : World) where
  wd : World
  ok : Below w.heap.size w wd

theorem ExtT.some (w : World) : Nonempty (ExtT w) := ⟨⟨w, Below.refl _ _⟩⟩
section
variable {P : Program}
/-- A region that draws, whose operations and callees turn nothing that was there: one walk. -/
theorem wp_region_ext {id : Nat} {Q : Exit → Act → World → Prop} {a : Act} {w : World} {l : List Oper} (hm : P.follows .mixedOrders = true) (hB : Region.lexB .any l.toArray = true)
    (h : wpQuiet P l.toArray (fun w' => ∃ e : ExtT w, w' = e.wd) (fun a' => ∀ w', (∃ e : ExtT w, w' = e.wd) → Q .normal a' w') l a) : (Code.region id l.toArray true).wp P Q a w :=
  wp_region_quiet (C := fun w' => ∃ e : ExtT w, w' = e.wd) hm hB ⟨⟨{ w with drawn := w.drawn + 1 }, (Below.refl _ _).drew⟩, rfl⟩ (by simpa using h)

theorem ext_of {f : FuncId} {args : Array Value} {w : World} {e : ExtT w} {v : Value}
    (h : Calls P f args e.wd fun x w' => x = .returned v ∧ Below e.wd.heap.size e.wd w') : Calls P f args e.wd fun x w'' => x = .returned v ∧ ∃ e2 : ExtT w, w'' = e2.wd :=
  h.mono fun _ w'' ⟨he, hb⟩ => ⟨he, ⟨w'', e.ok.trans (hb.mono e.ok.size)⟩, rfl⟩
theorem ext_of_drew {f : FuncId} {args : Array Value} {w : World} {e : ExtT w} {v : Value}
    (h : Calls P f args e.wd fun x w' => x = .returned v ∧ ∃ m, w' = e.wd.drewN m) : Calls P f args e.wd fun x w'' => x = .returned v ∧ ∃ e2 : ExtT w, w'' = e2.wd :=
  h.mono fun _ w'' ⟨he, m, hm⟩ => ⟨he, ⟨w'', by rw [hm]; exact ⟨e.ok.os, e.ok.tape, e.ok.output, e.ok.size, e.ok.block⟩⟩, rfl⟩
theorem ext_of_same {f : FuncId} {args : Array Value} {w : World} {e : ExtT w} {v : Value}
    (h : Calls P f args e.wd fun x w' => x = .returned v ∧ w' = e.wd) : Calls P f args e.wd fun x w'' => x = .returned v ∧ ∃ e2 : ExtT w, w'' = e2.wd :=
  h.mono fun _ w'' ⟨he, hm⟩ => ⟨he, e, hm⟩
theorem ExtT.range {w : World} (e : ExtT w) {b o : Nat} {cs : List Value} (h : w.rangeAt b o cs) (h0 : 0 < cs.length) : e.wd.rangeAt b o cs := fun j v hv => by
  rw [e.ok.cell (p := ⟨b, o + j, none⟩) (World.block_lt_of_cell? w ⟨b, o + 0, none⟩ (h 0 _ (List.getElem?_eq_getElem h0)))]
  exact h j v hv
end
end Go.Proofs.YtbpmpcmmdiaiiaaDoor

namespace Go.Proofs.YtbpmpcmmdiaiiaaDoor
open Go.RowKit
set_option linter.unusedVariables false
set_option linter.unusedSimpArgs false

/-- A slice of bytes that lies in memory. -/
def Byt (w : World) (a : Option Addr) (l : List UInt8) : Prop :=
  l = [] ∨ ∃ b off, a = some ⟨b, off, none⟩ ∧ ∀ j, j < l.length → w.cell? ⟨b, off + j, none⟩ = some (.int .u8 (at8 l j))
def byC (x : List UInt8) : List Value := x.map (fun b => Value.int .u8 (b.toNat : Int))
theorem byC_len (x : List UInt8) : (byC x).length = x.length := by simp [byC]
theorem byC_get (x : List UInt8) (j : Nat) (v : Value) (h : (byC x)[j]? = some v) : j < x.length ∧ v = .int .u8 (at8 x j) := by
  have hj : j < x.length := by have := (List.getElem?_eq_some_iff.1 h).1; simpa [byC] using this
  refine ⟨hj, ?_⟩
  simp [byC, List.getElem?_eq_getElem hj] at h
  simp [at8, List.getElem?_eq_getElem hj, h]
theorem byC_one (x : List UInt8) : ∀ v ∈ byC x, v.oneCell' = true := by
  intro v hv
  simp [byC] at hv
  obtain ⟨b, _, rfl⟩ := hv
  rfl
theorem hsz5 : (Tryd.prog.info? 5).map (·.size) = some 1 := by kernel_rfl
def lenOf : Value → Nat | .slice _ n _ => n | _ => 0
theorem byt_below {w w' : World} {a : Option Addr} {l : List UInt8} (h : Byt w a l) (hb : Below w.heap.size w w') : Byt w' a l := by
  rcases h with rfl | ⟨b, off, rfl, hc⟩
  · exact .inl rfl
  · exact .inr ⟨b, off, rfl, fun j hj => (hb.cell (p := ⟨b, off + j, none⟩) (block_lt_of_cell (hc j hj))).trans (hc j hj)⟩
theorem byt_lt {w : World} {a : Option Addr} {l : List UInt8} (h : Byt w a l) (hl : 0 < l.length) {b off : Nat} (e : a = some ⟨b, off, none⟩) : b < w.heap.size := by
  rcases h with rfl | ⟨b', off', rfl, hc⟩
  · simp at hl
  · cases e; exact block_lt_of_cell (hc 0 hl)

/-- A slice of the call's own that holds bytes. -/
def OwnB (w : World) (base : Nat) (v : Value) (L : List UInt8) : Prop := w.ownsRow base 5 1 v L.length (byC L)

theorem ownB_nil (w : World) (base : Nat) : OwnB w base (.slice none 0 0) [] := World.ownsRow_nil w base 5 1

theorem OwnB.open {w : World} {base : Nat} {v : Value} {L : List UInt8} (h : OwnB w base v L) :
    ∃ a cap, v = .slice a L.length cap ∧ L.length ≤ cap ∧ Byt w a L ∧ (∀ b off, a = some ⟨b, off, none⟩ → base ≤ b ∧ b < w.heap.size) := by
  rcases h.2 with ⟨rfl, hn⟩ | ⟨g, cap, cur, rfl, hbg, hg, hnc, hcm, hcs, htake⟩
  · obtain rfl : L = [] := List.eq_nil_of_length_eq_zero hn
    exact ⟨none, 0, rfl, Nat.le_refl _, .inl rfl, fun _ _ e => by cases e⟩
  · refine ⟨some ⟨g, 0, none⟩, cap, rfl, hnc, .inr ⟨g, 0, rfl, fun j hj => ?_⟩, fun b off e => by cases e; exact ⟨hbg, (Array.getElem?_eq_some_iff.1 hg).1⟩⟩
    rw [Nat.zero_add, cell_of_row w g j cur 5 (0, 0) hg]
    have e : (byC L)[j]? = some (.int .u8 (at8 L j)) := by simp [byC, at8, List.getElem?_eq_getElem hj]
    rw [← htake, List.getElem?_take] at e
    split at e
    · simpa using e
    · cases e
/-- .. that is not empty. -/
theorem OwnB.open1 {w : World} {base : Nat} {v : Value} {L : List UInt8} (h : OwnB w base v L) (h0 : 0 < L.length) :
    ∃ g cap, v = .slice (some ⟨g, 0, none⟩) L.length cap ∧ L.length ≤ cap ∧ (∀ j, j < L.length → w.cell? ⟨g, j, none⟩ = some (.int .u8 (at8 L j))) ∧ base ≤ g ∧ g < w.heap.size := by
  rcases h.2 with ⟨rfl, hn⟩ | ⟨g, cap, cur, rfl, hbg, hg, hnc, hcm, hcs, htake⟩
  · omega
  · refine ⟨g, cap, rfl, hnc, fun j hj => ?_, hbg, (Array.getElem?_eq_some_iff.1 hg).1⟩
    rw [cell_of_row w g j cur 5 (0, 0) hg]
    have e : (byC L)[j]? = some (.int .u8 (at8 L j)) := by simp [byC, at8, List.getElem?_eq_getElem hj]
    rw [← htake, List.getElem?_take] at e
    split at e
    · simpa using e
    · cases e
theorem OwnB.below {w w' : World} {base : Nat} {v : Value} {L : List UInt8} (h : OwnB w base v L) (hb : Below w.heap.size w w') : OwnB w' base v L := by
  refine ⟨h.1, ?_⟩
  rcases h.2 with hn | ⟨g, cap, cur, rfl, hbg, hg, rest⟩
  · exact .inl hn
  · exact .inr ⟨g, cap, cur, rfl, hbg, by rw [hb.block g (Array.getElem?_eq_some_iff.1 hg).1]; exact hg, rest⟩
theorem info5' : ∃ i, Tryd.prog.info? 5 = some i ∧ i.zero = some (.int .u8 0) ∧ i.size = 1 ∧ i.bytes = 1 := by
  obtain ⟨i, h1, h2, h3, h4⟩ := info_parts Tryd.info5
  exact ⟨i, h1, h2, h3, h4⟩

theorem run_app (w : World) (base : Nat) (ty : TypeId) (v : Value) (L : List UInt8) (a : Option Addr) (M : List UInt8) (c : Nat) (hown : OwnB w base v L) (hb : Byt w a M)
    (h : L.length + M.length ≤ 140737488355328) (hbase : base ≤ w.heap.size) :
    ∃ v' w', (Builtin.append_ #[29, 29] ty #[v, .slice a M.length c]).run Tryd.prog w = .ok v' w' ∧ OwnB w' base v' (L ++ M) ∧ w.grownBy w' v.ownBlock := by
  obtain ⟨i, hi, hz, hs, hby⟩ := info5'
  cases a with
  | some ad =>
    have hnews : ∀ j u, (byC M)[j]? = some u → w.cell? (ad.add j) = some u := fun j u hj => by
      obtain ⟨h1, rfl⟩ := byC_get _ j u hj
      rcases hb with rfl | ⟨b, off, e, hc⟩
      · simp at h1
      · cases e
        rw [Addr.add_mid]
        exact hc j h1
    obtain ⟨v', w', hr, h2, h3, _⟩ := run_append_own (P := Tryd.prog) w base 29 ty 5 i (.int .u8 0) 1 1 Tryd.underlying29 hi hz hs hby rfl (by decide) v L.length (byC L) hown ad M.length c (byC M) (by rw [byC_len]; omega) hnews (byC_one _) (by unfold maxLen; omega) (by omega) hbase
    refine ⟨v', w', hr, ?_, h3⟩
    unfold OwnB
    rw [List.length_append, show byC (L ++ M) = byC L ++ byC M by simp [byC]]
    exact h2
  | none =>
    obtain rfl : M = [] := by
      rcases hb with rfl | ⟨b, off, e, _⟩
      · rfl
      · cases e
    rcases hown.2 with ⟨rfl, hn⟩ | ⟨g, cap, cur, rfl, hbg, hg, hnc, rest⟩
    · refine ⟨.slice none 0 0, w, ?_, by rw [List.append_nil]; exact hown, ⟨rfl, rfl, rfl, Nat.le_refl _, fun _ _ _ => rfl⟩⟩
      simp [Builtin.append_, run_underlying Tryd.underlying29, sizeOf, typeInfo, hi, Builtin.lenOf, Builtin.firstCells, loadCells, loadCellsFrom]
    · refine ⟨.slice (some ⟨g, 0, none⟩) L.length cap, w, ?_, by rw [List.append_nil]; exact hown, ⟨rfl, rfl, rfl, Nat.le_refl _, fun _ _ _ => rfl⟩⟩
      simp [Builtin.append_, run_underlying Tryd.underlying29, sizeOf, typeInfo, hi, Builtin.lenOf, Builtin.firstCells, hnc, storeCells]

theorem wpList_app {ops : Array Oper} {rest : List Oper} {o : Oper} {a : Act} {w : World} {Q : Exit → Act → World → Prop} (hgd : o.guard = none) (s x : Operand)
    (ho : o.op = .call { callee := .builtin .append, args := #[s, x], argTypes := #[29, 29] }) (base : Nat) (v : Value) (L : List UInt8) (hs : a.eval s = v) (hown : OwnB w base v L)
    (aa : Option Addr) (m c : Nat) (M : List UInt8) (hx : a.eval x = .slice aa m c) (hm : M.length = m) (hb : Byt w aa M) (hlen : L.length + M.length ≤ 140737488355328) (hbase : base ≤ w.heap.size)
    (h : ∀ v' w', OwnB w' base v' (L ++ M) → w.grownBy w' v.ownBlock → wpList Tryd.prog ops Q rest (a.put o.dst v') w') : wpList Tryd.prog ops Q (o :: rest) a w :=
  wpList_plain hgd fun _ hK => by
    subst hm
    obtain ⟨v', w', hr, h2, h3⟩ := run_app w base o.type v L aa M c hown hb hlen hbase
    unfold Oper.wp execOp
    simp only [ho, resolve, invoke, builtin, Sem.run_bind, Sem.run_pure, Result.andThen_ok, List.map_toArray, List.map_cons, List.map_nil, hs, hx, hr]
    exact hK _ _ (h v' w' h2 h3)
theorem byt_one (w : World) (b : UInt8) (t : TypeId) : Byt (w.alloc (.cells #[.int .u8 (b.toNat : Int)] t)) (some ⟨w.heap.size, 0, none⟩) [b] :=
  .inr ⟨w.heap.size, 0, rfl, fun j hj => by
    obtain rfl : j = 0 := by simp at hj; omega
    rw [cell_of_row _ w.heap.size 0 _ _ _ (heap_alloc_new _ _)]
    rfl⟩

/-- append onto an owned row, as one step of a region that draws. -/
theorem step_app {ops : Array Oper} {o : Oper} {a : Act} {w : World} {K : Act → World → Prop} {Q : Exit → Act → World → Prop} {E : Prop} (hgd : o.guard = none) (s x : Operand)
    (ho : o.op = .call { callee := .builtin .append, args := #[s, x], argTypes := #[29, 29] }) (base : Nat) (v : Value) (L : List UInt8) (hs : a.eval s = v) (hown : OwnB w base v L)
    (aa : Option Addr) (m c : Nat) (M : List UInt8) (hx : a.eval x = .slice aa m c) (hm : M.length = m) (hb : Byt w aa M) (hlen : L.length + M.length ≤ 140737488355328) (hbase : base ≤ w.heap.size)
    (h : ∀ v' w', OwnB w' base v' (L ++ M) → w.grownBy w' v.ownBlock → K (a.put o.dst v') w') : if Region.wanted o (yielded ops a.tmps) = true then Oper.wp Tryd.prog o a w K Q else E := by
  have hw : Region.wanted o (yielded ops a.tmps) = true := by simp [Region.wanted, hgd]
  rw [if_pos hw]
  subst hm
  obtain ⟨v', w', hr, h2, h3⟩ := run_app w base o.type v L aa M c hown hb hlen hbase
  unfold Oper.wp execOp
  simp only [ho, resolve, invoke, builtin, Sem.run_bind, Sem.run_pure, Result.andThen_ok, List.map_toArray, List.map_cons, List.map_nil, hs, hx, hr]
  exact h v' w' h2 h3

end Go.Proofs.YtbpmpcmmdiaiiaaDoor

namespace Go.Proofs.YtbpmpcmmdiaiiaaDoor
open Go.RowKit
set_option linter.unusedVariables false
set_option linter.unusedSimpArgs false

/-- Which of two rows of bytes comes first. -/
def cmpL : List UInt8 → List UInt8 → Int
  | x :: a, y :: b => if x.toNat < y.toNat then -1 else if y.toNat < x.toNat then 1 else cmpL a b
  | _, _ => 0
theorem cmpL_at : ∀ (a b : List UInt8) (k : Nat), k < a.length → k < b.length → (∀ j, j < k → at8 a j = at8 b j) → (at8 a k < at8 b k → cmpL a b = -1) ∧ (at8 b k < at8 a k → cmpL a b = 1)
  | x :: a, y :: b, 0, _, _, _ => by
    simp only [at8_zero, cmpL]
    constructor
    · intro h; rw [if_pos (by omega)]
    · intro h; rw [if_neg (by omega), if_pos (by omega)]
  | x :: a, y :: b, k + 1, h1, h2, h3 => by
    have e := h3 0 (by omega)
    simp only [at8_zero] at e
    simp only [at8_succ, cmpL]
    rw [if_neg (by omega), if_neg (by omega)]
    exact cmpL_at a b k (by simpa using h1) (by simpa using h2) (fun j hj => by have := h3 (j + 1) (by omega); simpa [at8_succ] using this)
  | [], _, k, h1, _, _ => by simp at h1
  | _ :: _, [], k, _, h2, _ => by simp at h2
theorem cmpL_same (a : List UInt8) : cmpL a a = 0 := by
  induction a with
  | nil => rfl
  | cons x a ih => simp only [cmpL]; rw [if_neg (by omega), if_neg (by omega)]; exact ih

theorem cmpL_lib : ∀ (a b : List UInt8), a.length = b.length → cmpL a b = Lib.compareBytes a b
  | [], [], _ => rfl
  | [], _ :: _, h => by simp at h
  | _ :: _, [], h => by simp at h
  | x :: a, y :: b, h => by
    simp only [cmpL, Lib.compareBytes, UInt8.lt_iff_toNat_lt]
    rw [cmpL_lib a b (by simpa using h)]
theorem load_row (w : World) (g : Nat) (a : List UInt8) (fr : Nat × Nat) (hg : w.heap[g]? = some (.cells (bs a) 31 fr)) : (Extern.Bytes.bytesOf (.slice (some ⟨g, 0, none⟩) a.length 32)).run Tryd.prog w = .ok ⟨a.toArray⟩ w := by
  show (Extern.Bytes.loadBytes ⟨g, 0, none⟩ a.length .empty).run Tryd.prog w = _
  have h := Lib.run_loadBytesX (P := Tryd.prog) w (a.map (fun b => (b.toNat : Int))) ⟨g, 0, none⟩ .empty (fun j x hx => by
    have hj : j < a.length := by have := (List.getElem?_eq_some_iff.1 hx).1; simpa using this
    have e : (⟨g, 0, none⟩ : Addr).add j = ⟨g, j, none⟩ := by simpa using Addr.add_mid g 0 j
    rw [e, cell_of_row w g j _ _ _ hg, bs_get a j hj]
    simp [List.getElem?_eq_getElem hj] at hx
    simp [at8, List.getElem?_eq_getElem hj, hx])
  rw [List.length_map] at h
  rw [h]
  congr 1
  apply ByteArray.ext
  have e2 : Lib.bytesOf (a.map fun b => (b.toNat : Int)) = a := by
    simp only [Lib.bytesOf, List.map_map]
    exact (List.map_congr_left (fun b _ => by simp)).trans (List.map_id a)
  rw [e2]
  simp
theorem ext_cmp (w : World) (g0 g1 : Nat) (a b : List UInt8) (ha : a.length = 32) (hb : b.length = 32) (h0 : w.heap[g0]? = some (.cells (bs a) 31 (0, 0))) (h1 : w.heap[g1]? = some (.cells (bs b) 31 (0, 0))) :
    (callFunc 94 #[.slice (some ⟨g0, 0, none⟩) 32 32, .slice (some ⟨g1, 0, none⟩) 32 32]).run Tryd.prog w = .ok (.value (.int .i64 (cmpL a b))) w := by
  rw [run_callFunc_extern Tryd.func94 (by kernel_rfl) (by kernel_rfl) (by kernel_rfl) (e := Extern.BytealgCompare.compare) (by kernel_rfl)]
  have l0 := load_row w g0 a (0, 0) h0
  have l1 := load_row w g1 b (0, 0) h1
  rw [ha] at l0
  rw [hb] at l1
  have hr : (Extern.BytealgCompare.compare #[.slice (some ⟨g0, 0, none⟩) 32 32, .slice (some ⟨g1, 0, none⟩) 32 32]).run Tryd.prog w = .ok (.int .i64 (cmpL a b)) w := by
    show Sem.run Tryd.prog (do pure (goInt (Extern.BytealgCompare.cmp (← Extern.Bytes.bytesOf (.slice (some ⟨g0, 0, none⟩) 32 32)) (← Extern.Bytes.bytesOf (.slice (some ⟨g1, 0, none⟩) 32 32))))) w = _
    simp only [Sem.run_bind, l0, l1, Result.andThen, Sem.run_pure]
    rw [Lib.cmp_eq, cmpL_lib a b (by omega)]
    rfl
  rw [hr]
  rfl
set_option maxRecDepth 100000 in
set_option maxHeartbeats 1000000 in
theorem bcmp_any (w : World) (g0 g1 : Nat) (a b : List UInt8) (ha : a.length = 32) (hb : b.length = 32) (h0 : w.heap[g0]? = some (.cells (bs a) 31 (0, 0))) (h1 : w.heap[g1]? = some (.cells (bs b) 31 (0, 0))) :
    Calls Tryd.prog 80 #[.slice (some ⟨g0, 0, none⟩) 32 32, .slice (some ⟨g1, 0, none⟩) 32 32] w fun e w' => e = .returned (.int .i64 (cmpL a b)) ∧ w' = w := by
  have hx := ext_cmp w g0 g1 a b ha hb h0 h1
  clear h0 h1
  go_enter Tryd.func80, Tryd.ntmps80
  go_wp2
  go_ret
  exact ⟨rfl, rfl⟩
set_option maxRecDepth 100000 in
set_option maxHeartbeats 1000000 in
theorem cmp_grow (a b : List UInt8) (ha : a.length = 32) (hb : b.length = 32) (w : World) :
    Calls Tryd.prog 69 #[.agg (bs a), .agg (bs b)] w fun e w' => e = .returned (.int .i64 (cmpL a b)) ∧ ∃ m, w' = ((w.alloc (.cells (bs a) 31)).alloc (.cells (bs b) 31)).drewN m := by
  have g0 : ((w.alloc (.cells (bs a) 31)).alloc (.cells (bs b) 31)).heap[w.heap.size]? = some (.cells (bs a) 31 (0, 0)) := heap_alloc2_old _ _ _
  have g1 : ((w.alloc (.cells (bs a) 31)).alloc (.cells (bs b) 31)).heap[w.heap.size + 1]? = some (.cells (bs b) 31 (0, 0)) := heap_alloc2_new _ _ _
  obtain ⟨W0, hW0⟩ : ∃ W0, W0 = ((w.alloc (.cells (bs a) 31)).alloc (.cells (bs b) 31)) := ⟨_, rfl⟩
  rw [← hW0] at g0 g1 ⊢
  have HB : Hid (∀ m, Calls Tryd.prog 80 #[.slice (some ⟨w.heap.size, 0, none⟩) 32 32, .slice (some ⟨w.heap.size + 1, 0, none⟩) 32 32] (W0.drewN m) fun e w' => e = .returned (.int .i64 (cmpL a b)) ∧ w' = W0.drewN m) := fun m => bcmp_any (W0.drewN m) w.heap.size (w.heap.size + 1) a b ha hb g0 g1
  have HW0 : Hid (W0 = ((w.alloc (.cells (bs a) 31)).alloc (.cells (bs b) 31))) := hW0
  clear g0 g1 hW0
  go_enter Tryd.func69, Tryd.ntmps69
  go_wp2
  rw [← HW0.out]
  go_quiet (first | (go_at_call 80; exact Calls.quiet_of_same (HB.out _)) | fail)
  go_wp2
  go_ret
  exact ⟨rfl, _, rfl⟩
theorem cmp_any (a b : List UInt8) (ha : a.length = 32) (hb : b.length = 32) (w : World) :
    Calls Tryd.prog 69 #[.agg (bs a), .agg (bs b)] w fun e w' => e = .returned (.int .i64 (cmpL a b)) ∧ Below w.heap.size w w' :=
  (cmp_grow a b ha hb w).mono fun e w' ⟨he, m, hw⟩ => ⟨he, by rw [hw]; exact below_drewN (((Below.refl _ _).alloc (Nat.le_refl _) _).alloc (by simp) _) _⟩
end Go.Proofs.YtbpmpcmmdiaiiaaDoor

