import Derived.Test.YtgiblfhajiakgaaGreatDoorGr
import Derived.Test.YtgiblfhajiakgaaGreatDoorHi
namespace Go.Proofs.YtgiblfhajiakgaaGreatDoor
open Go.RowKit
set_option linter.unusedVariables false
set_option linter.unusedSimpArgs false

/-- What is written, as cells. -/
def oL (k b v u n f s r : Value) (h : List UInt8) (l e : Value) : List Value := k :: b :: v :: u :: n :: f :: s :: r :: (hcs h ++ [l, e])
def oC (k b v u n f s r : Value) (h : List UInt8) (l e : Value) : Array Value := (oL k b v u n f s r h l e).toArray
section
variable {k b v u n f s r l e : Value} {h : List UInt8}
theorem oL_len (hh : h.length = 32) : (oL k b v u n f s r h l e).length = 42 := by simp [oL, hcs_len, hh]
theorem oC_40 (hh : h.length = 32) : (oC k b v u n f s r h l e)[40]? = some l := by
  simp [oC, oL]
  rw [List.getElem?_append_right (by rw [hcs_len, hh]; omega), hcs_len, hh]
  rfl
theorem oC_41 (hh : h.length = 32) : (oC k b v u n f s r h l e)[41]? = some e := by
  simp [oC, oL]
  rw [List.getElem?_append_right (by rw [hcs_len, hh]; omega), hcs_len, hh]
  rfl
theorem oC_hash (hh : h.length = 32) (j : Nat) (x : Value) (hx : (hcs h)[j]? = some x) : (oC k b v u n f s r h l e)[8 + j]? = some x := by
  have hj : j < (hcs h).length := (List.getElem?_eq_some_iff.1 hx).1
  unfold oC oL
  rw [show 8 + j = j + 1 + 1 + 1 + 1 + 1 + 1 + 1 + 1 by omega]
  simp only [List.getElem?_toArray, List.getElem?_cons_succ]
  rw [List.getElem?_append_left hj]
  exact hx
end
structure OpAt (w : World) (g : Nat) (k b v u n f s r : Value) (h : List UInt8) (l e : Value) : Prop where
  c0 : w.cell? ⟨g, 0, none⟩ = some k
  c1 : w.cell? ⟨g, 1, none⟩ = some b
  c2 : w.cell? ⟨g, 2, none⟩ = some v
  c3 : w.cell? ⟨g, 3, none⟩ = some u
  c4 : w.cell? ⟨g, 4, none⟩ = some n
  c5 : w.cell? ⟨g, 5, none⟩ = some f
  c6 : w.cell? ⟨g, 6, none⟩ = some s
  c7 : w.cell? ⟨g, 7, none⟩ = some r
  ch : w.rangeAt g 8 (hcs h)
  c40 : w.cell? ⟨g, 40, none⟩ = some l
  c41 : w.cell? ⟨g, 41, none⟩ = some e
theorem opAt_row {w : World} {g : Nat} {k b v u n f s r l e : Value} {h : List UInt8} {C : Array Value} {t : TypeId} {fr : Nat × Nat} (hh : h.length = 32) (hg : w.heap[g]? = some (.cells C t fr)) (hC : C = oC k b v u n f s r h l e) : OpAt w g k b v u n f s r h l e := by
  subst hC
  have key : ∀ i x, (oC k b v u n f s r h l e)[i]? = some x → w.cell? ⟨g, i, none⟩ = some x := fun i x hx => (cell_of_row w g i _ _ _ hg).trans hx
  exact ⟨key 0 _ rfl, key 1 _ rfl, key 2 _ rfl, key 3 _ rfl, key 4 _ rfl, key 5 _ rfl, key 6 _ rfl, key 7 _ rfl, fun j x hx => key (8 + j) x (oC_hash hh j x hx), key 40 _ (oC_40 hh), key 41 _ (oC_41 hh)⟩
theorem cell_block {w w' : World} {g i : Nat} {x : Value} (h : w'.heap[g]? = w.heap[g]?) (hc : w.cell? ⟨g, i, none⟩ = some x) : w'.cell? ⟨g, i, none⟩ = some x := (World.cell?_of_block h).trans hc
/-- What comes in. -/
structure OpV where
  b : Int
  v : Bool
  u : Nat
  n : Int
  f : Nat
  s : ByteArray
  ra : Option Addr
  rn : Nat
  rc : Nat
  h : List UInt8
  la : Option Addr
  ln : Nat
  lc : Nat
  e : Int
def OpV.c (o : OpV) (k : Int) : Array Value := oC (.int .i64 k) (.int .u8 o.b) (.bool o.v) (.int .u64 (o.u : Int)) (.int .i64 o.n) (.float .f64 o.f) (.string o.s) (.slice o.ra o.rn o.rc) o.h (.slice o.la o.ln o.lc) (.int .i64 o.e)
theorem op_block (o : OpV) (hh : o.h.length = 32) (k : Int) (w : World) : ∃ wx, wx = w.alloc (.cells (o.c k) 39) ∧ Below w.heap.size w wx ∧ wx.heap.size = w.heap.size + 1 ∧ OpAt wx w.heap.size (.int .i64 k) (.int .u8 o.b) (.bool o.v) (.int .u64 (o.u : Int)) (.int .i64 o.n) (.float .f64 o.f) (.string o.s) (.slice o.ra o.rn o.rc) o.h (.slice o.la o.ln o.lc) (.int .i64 o.e) :=
  ⟨_, rfl, (Below.refl _ _).alloc (Nat.le_refl _) _, by simp, opAt_row hh (heap_alloc_new _ _) rfl⟩
/-- What stands behind a write. -/
def Wdd (w : World) (Post : World → World → Prop) (w' : World) : Prop := ∃ wx, Below w.heap.size w wx ∧ wx.heap.size = w.heap.size + 1 ∧ Post wx w'

set_option maxRecDepth 100000 in
set_option maxHeartbeats 2000000 in
theorem write_0 (ptr : Option Addr) (o : OpV) (hh : o.h.length = 32) (w : World) (Post : World → World → Prop)
    (H : ∀ wx, Below w.heap.size w wx → wx.heap.size = w.heap.size + 1 → Calls Tryz.prog 13 #[.pointer ptr, .int .u8 o.b] wx fun x w1 => x = .returned (.tuple #[]) ∧ Post wx w1) :
    Calls Tryz.prog 6 #[.pointer ptr, .agg (o.c 0)] w fun x w' => x = .returned (.bool true) ∧ Wdd w Post w' := by
  obtain ⟨wx, hwx, bx, sx, ⟨r0, r1, r2, r3, r4, r5, r6, r7, rh, r40, r41⟩⟩ := op_block o hh 0 w
  have HC := K.Hid.mk' (H wx bx sx)
  have BX := K.Hid.mk' bx
  have SX := K.Hid.mk' sx
  have PH := K.Hid.mk' rh
  clear H bx sx rh
  generalize o.c 0 = C at *
  go_enter Tryz.func6, Tryz.ntmps6
  go_upto_region 1 with fail
  rw [← hwx]
  clear hwx
  go_wp2_with fail
  refine HC.out.mono ?_
  rintro x w1 ⟨rfl, hp⟩
  have HP := K.Hid.mk' hp
  clear hp HC r0 r1 r2 r3 r4 r5 r6 r7 r40 r41
  go_wp2
  go_ret
  exact ⟨rfl, _, BX.out, SX.out, HP.out⟩

set_option maxRecDepth 100000 in
set_option maxHeartbeats 2000000 in
theorem write_1 (ptr : Option Addr) (o : OpV) (hh : o.h.length = 32) (w : World) (Post : World → World → Prop)
    (H : ∀ wx, Below w.heap.size w wx → wx.heap.size = w.heap.size + 1 → Calls Tryz.prog 36 #[.pointer ptr, .bool o.v] wx fun x w1 => x = .returned (.tuple #[]) ∧ Post wx w1) :
    Calls Tryz.prog 6 #[.pointer ptr, .agg (o.c 1)] w fun x w' => x = .returned (.bool true) ∧ Wdd w Post w' := by
  obtain ⟨wx, hwx, bx, sx, ⟨r0, r1, r2, r3, r4, r5, r6, r7, rh, r40, r41⟩⟩ := op_block o hh 1 w
  have HC := K.Hid.mk' (H wx bx sx)
  have BX := K.Hid.mk' bx
  have SX := K.Hid.mk' sx
  have PH := K.Hid.mk' rh
  clear H bx sx rh
  generalize o.c 1 = C at *
  go_enter Tryz.func6, Tryz.ntmps6
  go_upto_region 1 with fail
  rw [← hwx]
  clear hwx
  go_wp2_with fail
  refine HC.out.mono ?_
  rintro x w1 ⟨rfl, hp⟩
  have HP := K.Hid.mk' hp
  clear hp HC r0 r1 r2 r3 r4 r5 r6 r7 r40 r41
  go_wp2
  go_ret
  exact ⟨rfl, _, BX.out, SX.out, HP.out⟩

set_option maxRecDepth 100000 in
set_option maxHeartbeats 2000000 in
theorem write_2 (ptr : Option Addr) (o : OpV) (hh : o.h.length = 32) (w : World) (Post : World → World → Prop)
    (H : ∀ wx, Below w.heap.size w wx → wx.heap.size = w.heap.size + 1 → Calls Tryz.prog 37 #[.pointer ptr, .int .u32 ((o.u : Int) % 4294967296)] wx fun x w1 => x = .returned (.tuple #[]) ∧ Post wx w1) :
    Calls Tryz.prog 6 #[.pointer ptr, .agg (o.c 2)] w fun x w' => x = .returned (.bool true) ∧ Wdd w Post w' := by
  obtain ⟨wx, hwx, bx, sx, ⟨r0, r1, r2, r3, r4, r5, r6, r7, rh, r40, r41⟩⟩ := op_block o hh 2 w
  have HC : Hid (∀ q : Int, q = (o.u : Int) % 4294967296 → Calls Tryz.prog 37 #[.pointer ptr, .int .u32 q] wx fun x w1 => x = .returned (.tuple #[]) ∧ Post wx w1) := fun q hq => by rw [hq]; exact H wx bx sx
  have BX := K.Hid.mk' bx
  have SX := K.Hid.mk' sx
  have PH := K.Hid.mk' rh
  clear H bx sx rh
  generalize o.c 2 = C at *
  go_enter Tryz.func6, Tryz.ntmps6
  go_upto_region 1 with fail
  rw [← hwx]
  clear hwx
  go_wp2_with fail
  refine (HC.out _ (by first | rfl | (simp only [IntKind.wrap_u32]))).mono ?_
  rintro x w1 ⟨rfl, hp⟩
  have HP := K.Hid.mk' hp
  clear hp HC r0 r1 r2 r3 r4 r5 r6 r7 r40 r41
  go_wp2
  go_ret
  exact ⟨rfl, _, BX.out, SX.out, HP.out⟩

set_option maxRecDepth 100000 in
set_option maxHeartbeats 2000000 in
theorem write_3 (ptr : Option Addr) (o : OpV) (hh : o.h.length = 32) (w : World) (Post : World → World → Prop)
    (H : ∀ wx, Below w.heap.size w wx → wx.heap.size = w.heap.size + 1 → Calls Tryz.prog 26 #[.pointer ptr, .int .u64 (o.u : Int)] wx fun x w1 => x = .returned (.tuple #[]) ∧ Post wx w1) :
    Calls Tryz.prog 6 #[.pointer ptr, .agg (o.c 3)] w fun x w' => x = .returned (.bool true) ∧ Wdd w Post w' := by
  obtain ⟨wx, hwx, bx, sx, ⟨r0, r1, r2, r3, r4, r5, r6, r7, rh, r40, r41⟩⟩ := op_block o hh 3 w
  have HC := K.Hid.mk' (H wx bx sx)
  have BX := K.Hid.mk' bx
  have SX := K.Hid.mk' sx
  have PH := K.Hid.mk' rh
  clear H bx sx rh
  generalize o.c 3 = C at *
  go_enter Tryz.func6, Tryz.ntmps6
  go_upto_region 1 with fail
  rw [← hwx]
  clear hwx
  go_wp2_with fail
  refine HC.out.mono ?_
  rintro x w1 ⟨rfl, hp⟩
  have HP := K.Hid.mk' hp
  clear hp HC r0 r1 r2 r3 r4 r5 r6 r7 r40 r41
  go_wp2
  go_ret
  exact ⟨rfl, _, BX.out, SX.out, HP.out⟩

set_option maxRecDepth 100000 in
set_option maxHeartbeats 2000000 in
theorem write_4 (ptr : Option Addr) (o : OpV) (hh : o.h.length = 32) (w : World) (Post : World → World → Prop)
    (H : ∀ wx, Below w.heap.size w wx → wx.heap.size = w.heap.size + 1 → Calls Tryz.prog 27 #[.pointer ptr, .int .i64 o.n] wx fun x w1 => x = .returned (.tuple #[]) ∧ Post wx w1) :
    Calls Tryz.prog 6 #[.pointer ptr, .agg (o.c 4)] w fun x w' => x = .returned (.bool true) ∧ Wdd w Post w' := by
  obtain ⟨wx, hwx, bx, sx, ⟨r0, r1, r2, r3, r4, r5, r6, r7, rh, r40, r41⟩⟩ := op_block o hh 4 w
  have HC := K.Hid.mk' (H wx bx sx)
  have BX := K.Hid.mk' bx
  have SX := K.Hid.mk' sx
  have PH := K.Hid.mk' rh
  clear H bx sx rh
  generalize o.c 4 = C at *
  go_enter Tryz.func6, Tryz.ntmps6
  go_upto_region 1 with fail
  rw [← hwx]
  clear hwx
  go_wp2_with fail
  refine HC.out.mono ?_
  rintro x w1 ⟨rfl, hp⟩
  have HP := K.Hid.mk' hp
  clear hp HC r0 r1 r2 r3 r4 r5 r6 r7 r40 r41
  go_wp2
  go_ret
  exact ⟨rfl, _, BX.out, SX.out, HP.out⟩

set_option maxRecDepth 100000 in
set_option maxHeartbeats 2000000 in
theorem write_5 (ptr : Option Addr) (o : OpV) (hh : o.h.length = 32) (w : World) (Post : World → World → Prop)
    (H : ∀ wx, Below w.heap.size w wx → wx.heap.size = w.heap.size + 1 → Calls Tryz.prog 29 #[.pointer ptr, .float .f64 o.f] wx fun x w1 => x = .returned (.tuple #[]) ∧ Post wx w1) :
    Calls Tryz.prog 6 #[.pointer ptr, .agg (o.c 5)] w fun x w' => x = .returned (.bool true) ∧ Wdd w Post w' := by
  obtain ⟨wx, hwx, bx, sx, ⟨r0, r1, r2, r3, r4, r5, r6, r7, rh, r40, r41⟩⟩ := op_block o hh 5 w
  have HC := K.Hid.mk' (H wx bx sx)
  have BX := K.Hid.mk' bx
  have SX := K.Hid.mk' sx
  have PH := K.Hid.mk' rh
  clear H bx sx rh
  generalize o.c 5 = C at *
  go_enter Tryz.func6, Tryz.ntmps6
  go_upto_region 1 with fail
  rw [← hwx]
  clear hwx
  go_wp2_with fail
  refine HC.out.mono ?_
  rintro x w1 ⟨rfl, hp⟩
  have HP := K.Hid.mk' hp
  clear hp HC r0 r1 r2 r3 r4 r5 r6 r7 r40 r41
  go_wp2
  go_ret
  exact ⟨rfl, _, BX.out, SX.out, HP.out⟩

set_option maxRecDepth 100000 in
set_option maxHeartbeats 2000000 in
theorem write_6 (ptr : Option Addr) (o : OpV) (hh : o.h.length = 32) (w : World) (Post : World → World → Prop)
    (H : ∀ wx, Below w.heap.size w wx → wx.heap.size = w.heap.size + 1 → Calls Tryz.prog 28 #[.pointer ptr, .string o.s] wx fun x w1 => x = .returned (.tuple #[]) ∧ Post wx w1) :
    Calls Tryz.prog 6 #[.pointer ptr, .agg (o.c 6)] w fun x w' => x = .returned (.bool true) ∧ Wdd w Post w' := by
  obtain ⟨wx, hwx, bx, sx, ⟨r0, r1, r2, r3, r4, r5, r6, r7, rh, r40, r41⟩⟩ := op_block o hh 6 w
  have HC := K.Hid.mk' (H wx bx sx)
  have BX := K.Hid.mk' bx
  have SX := K.Hid.mk' sx
  have PH := K.Hid.mk' rh
  clear H bx sx rh
  generalize o.c 6 = C at *
  go_enter Tryz.func6, Tryz.ntmps6
  go_upto_region 1 with fail
  rw [← hwx]
  clear hwx
  go_wp2_with fail
  refine HC.out.mono ?_
  rintro x w1 ⟨rfl, hp⟩
  have HP := K.Hid.mk' hp
  clear hp HC r0 r1 r2 r3 r4 r5 r6 r7 r40 r41
  go_wp2
  go_ret
  exact ⟨rfl, _, BX.out, SX.out, HP.out⟩

set_option maxRecDepth 100000 in
set_option maxHeartbeats 2000000 in
theorem write_8 (ptr : Option Addr) (o : OpV) (hh : o.h.length = 32) (w : World) (Post : World → World → Prop)
    (H : ∀ wx, Below w.heap.size w wx → wx.heap.size = w.heap.size + 1 → Calls Tryz.prog 39 #[.pointer ptr, .agg (bs o.h)] wx fun x w1 => x = .returned (.tuple #[]) ∧ Post wx w1) :
    Calls Tryz.prog 6 #[.pointer ptr, .agg (o.c 8)] w fun x w' => x = .returned (.bool true) ∧ Wdd w Post w' := by
  obtain ⟨wx, hwx, bx, sx, ⟨r0, r1, r2, r3, r4, r5, r6, r7, rh, r40, r41⟩⟩ := op_block o hh 8 w
  have HC := K.Hid.mk' (H wx bx sx)
  have BX := K.Hid.mk' bx
  have SX := K.Hid.mk' sx
  have PH := K.Hid.mk' rh
  clear H bx sx rh
  generalize o.c 8 = C at *
  go_enter Tryz.func6, Tryz.ntmps6
  go_upto_region 1 with fail
  rw [← hwx]
  clear hwx
  go_wp2_with (first
    | (refine wpList_load_midG rfl 36 _ rfl w.heap.size 8 rfl (hcs o.h) _ PH.out Tryz.underlying36 rfl (by rw [hcs_len, hh]; exact hsH) ?_; rw [hcs_arr])
    | fail)
  refine HC.out.mono ?_
  rintro x w1 ⟨rfl, hp⟩
  have HP := K.Hid.mk' hp
  clear hp HC r0 r1 r2 r3 r4 r5 r6 r7 r40 r41
  go_wp2
  go_ret
  exact ⟨rfl, _, BX.out, SX.out, HP.out⟩

set_option maxRecDepth 100000 in
set_option maxHeartbeats 2000000 in
theorem write_10 (ptr : Option Addr) (o : OpV) (hh : o.h.length = 32) (w : World) (Post : World → World → Prop)
    (H : ∀ wx, Below w.heap.size w wx → wx.heap.size = w.heap.size + 1 → Calls Tryz.prog 43 #[.pointer ptr, .int .i64 o.e] wx fun x w1 => x = .returned (.tuple #[]) ∧ Post wx w1) :
    Calls Tryz.prog 6 #[.pointer ptr, .agg (o.c 10)] w fun x w' => x = .returned (.bool true) ∧ Wdd w Post w' := by
  obtain ⟨wx, hwx, bx, sx, ⟨r0, r1, r2, r3, r4, r5, r6, r7, rh, r40, r41⟩⟩ := op_block o hh 10 w
  have HC := K.Hid.mk' (H wx bx sx)
  have BX := K.Hid.mk' bx
  have SX := K.Hid.mk' sx
  have PH := K.Hid.mk' rh
  clear H bx sx rh
  generalize o.c 10 = C at *
  go_enter Tryz.func6, Tryz.ntmps6
  go_upto_region 1 with fail
  rw [← hwx]
  clear hwx
  go_wp2_with fail
  refine HC.out.mono ?_
  rintro x w1 ⟨rfl, hp⟩
  have HP := K.Hid.mk' hp
  clear hp HC r0 r1 r2 r3 r4 r5 r6 r7 r40 r41
  go_wp2
  go_ret
  exact ⟨rfl, _, BX.out, SX.out, HP.out⟩

set_option maxRecDepth 100000 in
set_option maxHeartbeats 2000000 in
theorem write_no (ptr : Option Addr) (o : OpV) (hh : o.h.length = 32) (k : Int) (hk : k < 0 ∨ 10 < k) (w : World) :
    Calls Tryz.prog 6 #[.pointer ptr, .agg (o.c k)] w fun x w' => x = .returned (.bool true) ∧ Wdd w (fun wx w1 => w1 = wx) w' := by
  obtain ⟨wx, hwx, bx, sx, ⟨r0, r1, r2, r3, r4, r5, r6, r7, rh, r40, r41⟩⟩ := op_block o hh k w
  have BX := K.Hid.mk' bx
  have SX := K.Hid.mk' sx
  have k0 : ¬ k = 0 := by omega
  have k1 : ¬ k = 1 := by omega
  have k2 : ¬ k = 2 := by omega
  have k3 : ¬ k = 3 := by omega
  have k4 : ¬ k = 4 := by omega
  have k5 : ¬ k = 5 := by omega
  have k6 : ¬ k = 6 := by omega
  have k7 : ¬ k = 7 := by omega
  have k8 : ¬ k = 8 := by omega
  have k9 : ¬ k = 9 := by omega
  have k10 : ¬ k = 10 := by omega
  clear bx sx rh hk
  generalize o.c k = C at *
  go_enter Tryz.func6, Tryz.ntmps6
  go_upto_region 1 with fail
  rw [← hwx]
  clear hwx
  go_wp2
  go_ret
  exact ⟨rfl, _, BX.out, SX.out, rfl⟩
end Go.Proofs.YtgiblfhajiakgaaGreatDoor
