import Derived.Test.YtgiblfhajiakgaaGreatDoorGw
import Derived.Test.YtgiblfhajiakgaaGreatDoorP3
import Derived.Test.YtgiblfhajiakgaaGreatDoorGy
import Derived.Test.YtgiblfhajiakgaaGreatDoorP1
import Derived.Test.YtgiblfhajiakgaaGreatDoorP2
namespace Go.Proofs.YtgiblfhajiakgaaGreatDoor
open Go.RowKit
set_option linter.unusedVariables false
set_option linter.unusedSimpArgs false

set_option maxRecDepth 100000 in
set_option maxHeartbeats 2000000 in
theorem wref_0 (ptr : Option Addr) (o : OpV) (hh : o.h.length = 32) (w : World) (Post : World → World → Prop)
    (H : ∀ wx, Below w.heap.size w wx → wx.heap.size = w.heap.size + 1 → Calls Tryz.prog 14 #[.pointer ptr, .int .u8 o.b] wx fun x w1 => x = .returned (.tuple #[]) ∧ Post wx w1) :
    Calls Tryz.prog 7 #[.pointer ptr, .agg (o.c 0)] w fun x w' => x = .returned (.tuple #[]) ∧ Wdd w Post w' := by
  obtain ⟨wx, hwx, bx, sx, ⟨r0, r1, r2, r3, r4, r5, r6, r7, rh, r40, r41⟩⟩ := op_block o hh 0 w
  have HC := K.Hid.mk' (H wx bx sx)
  have BX := K.Hid.mk' bx
  have SX := K.Hid.mk' sx
  have PH := K.Hid.mk' rh
  clear H bx sx rh
  generalize o.c 0 = C at *
  go_enter Tryz.func7, Tryz.ntmps7
  go_upto_region 1 with fail
  rw [← hwx]
  clear hwx
  go_wp2_with fail
  refine HC.out.mono ?_
  rintro x w1 ⟨rfl, hp⟩
  have HP := K.Hid.mk' hp
  clear hp HC r0 r1 r2 r3 r4 r5 r6 r7 r40 r41
  go_wp2
  go_end0
  exact ⟨rfl, _, BX.out, SX.out, HP.out⟩

set_option maxRecDepth 100000 in
set_option maxHeartbeats 2000000 in
theorem wref_1 (ptr : Option Addr) (o : OpV) (hh : o.h.length = 32) (w : World) (Post : World → World → Prop)
    (H : ∀ wx, Below w.heap.size w wx → wx.heap.size = w.heap.size + 1 → Calls Tryz.prog 44 #[.pointer ptr, .bool o.v] wx fun x w1 => x = .returned (.tuple #[]) ∧ Post wx w1) :
    Calls Tryz.prog 7 #[.pointer ptr, .agg (o.c 1)] w fun x w' => x = .returned (.tuple #[]) ∧ Wdd w Post w' := by
  obtain ⟨wx, hwx, bx, sx, ⟨r0, r1, r2, r3, r4, r5, r6, r7, rh, r40, r41⟩⟩ := op_block o hh 1 w
  have HC := K.Hid.mk' (H wx bx sx)
  have BX := K.Hid.mk' bx
  have SX := K.Hid.mk' sx
  have PH := K.Hid.mk' rh
  clear H bx sx rh
  generalize o.c 1 = C at *
  go_enter Tryz.func7, Tryz.ntmps7
  go_upto_region 1 with fail
  rw [← hwx]
  clear hwx
  go_wp2_with fail
  refine HC.out.mono ?_
  rintro x w1 ⟨rfl, hp⟩
  have HP := K.Hid.mk' hp
  clear hp HC r0 r1 r2 r3 r4 r5 r6 r7 r40 r41
  go_wp2
  go_end0
  exact ⟨rfl, _, BX.out, SX.out, HP.out⟩

set_option maxRecDepth 100000 in
set_option maxHeartbeats 2000000 in
theorem wref_2 (ptr : Option Addr) (o : OpV) (hh : o.h.length = 32) (w : World) (Post : World → World → Prop)
    (H : ∀ wx, Below w.heap.size w wx → wx.heap.size = w.heap.size + 1 → Calls Tryz.prog 45 #[.pointer ptr, .int .u32 ((o.u : Int) % 4294967296)] wx fun x w1 => x = .returned (.tuple #[]) ∧ Post wx w1) :
    Calls Tryz.prog 7 #[.pointer ptr, .agg (o.c 2)] w fun x w' => x = .returned (.tuple #[]) ∧ Wdd w Post w' := by
  obtain ⟨wx, hwx, bx, sx, ⟨r0, r1, r2, r3, r4, r5, r6, r7, rh, r40, r41⟩⟩ := op_block o hh 2 w
  have HC := K.Hid.mk' (H wx bx sx)
  have BX := K.Hid.mk' bx
  have SX := K.Hid.mk' sx
  have PH := K.Hid.mk' rh
  clear H bx sx rh
  generalize o.c 2 = C at *
  go_enter Tryz.func7, Tryz.ntmps7
  go_upto_region 1 with fail
  rw [← hwx]
  clear hwx
  go_wp2_with fail
  refine HC.out.mono ?_
  rintro x w1 ⟨rfl, hp⟩
  have HP := K.Hid.mk' hp
  clear hp HC r0 r1 r2 r3 r4 r5 r6 r7 r40 r41
  go_wp2
  go_end0
  exact ⟨rfl, _, BX.out, SX.out, HP.out⟩

set_option maxRecDepth 100000 in
set_option maxHeartbeats 2000000 in
theorem wref_3 (ptr : Option Addr) (o : OpV) (hh : o.h.length = 32) (w : World) (Post : World → World → Prop)
    (H : ∀ wx, Below w.heap.size w wx → wx.heap.size = w.heap.size + 1 → Calls Tryz.prog 46 #[.pointer ptr, .int .u64 (o.u : Int)] wx fun x w1 => x = .returned (.tuple #[]) ∧ Post wx w1) :
    Calls Tryz.prog 7 #[.pointer ptr, .agg (o.c 3)] w fun x w' => x = .returned (.tuple #[]) ∧ Wdd w Post w' := by
  obtain ⟨wx, hwx, bx, sx, ⟨r0, r1, r2, r3, r4, r5, r6, r7, rh, r40, r41⟩⟩ := op_block o hh 3 w
  have HC := K.Hid.mk' (H wx bx sx)
  have BX := K.Hid.mk' bx
  have SX := K.Hid.mk' sx
  have PH := K.Hid.mk' rh
  clear H bx sx rh
  generalize o.c 3 = C at *
  go_enter Tryz.func7, Tryz.ntmps7
  go_upto_region 1 with fail
  rw [← hwx]
  clear hwx
  go_wp2_with fail
  refine HC.out.mono ?_
  rintro x w1 ⟨rfl, hp⟩
  have HP := K.Hid.mk' hp
  clear hp HC r0 r1 r2 r3 r4 r5 r6 r7 r40 r41
  go_wp2
  go_end0
  exact ⟨rfl, _, BX.out, SX.out, HP.out⟩

set_option maxRecDepth 100000 in
set_option maxHeartbeats 2000000 in
theorem wref_4 (ptr : Option Addr) (o : OpV) (hh : o.h.length = 32) (w : World) (Post : World → World → Prop)
    (H : ∀ wx, Below w.heap.size w wx → wx.heap.size = w.heap.size + 1 → Calls Tryz.prog 47 #[.pointer ptr, .int .i64 o.n] wx fun x w1 => x = .returned (.tuple #[]) ∧ Post wx w1) :
    Calls Tryz.prog 7 #[.pointer ptr, .agg (o.c 4)] w fun x w' => x = .returned (.tuple #[]) ∧ Wdd w Post w' := by
  obtain ⟨wx, hwx, bx, sx, ⟨r0, r1, r2, r3, r4, r5, r6, r7, rh, r40, r41⟩⟩ := op_block o hh 4 w
  have HC := K.Hid.mk' (H wx bx sx)
  have BX := K.Hid.mk' bx
  have SX := K.Hid.mk' sx
  have PH := K.Hid.mk' rh
  clear H bx sx rh
  generalize o.c 4 = C at *
  go_enter Tryz.func7, Tryz.ntmps7
  go_upto_region 1 with fail
  rw [← hwx]
  clear hwx
  go_wp2_with fail
  refine HC.out.mono ?_
  rintro x w1 ⟨rfl, hp⟩
  have HP := K.Hid.mk' hp
  clear hp HC r0 r1 r2 r3 r4 r5 r6 r7 r40 r41
  go_wp2
  go_end0
  exact ⟨rfl, _, BX.out, SX.out, HP.out⟩

set_option maxRecDepth 100000 in
set_option maxHeartbeats 2000000 in
theorem wref_5 (ptr : Option Addr) (o : OpV) (hh : o.h.length = 32) (w : World) (Post : World → World → Prop)
    (H : ∀ wx, Below w.heap.size w wx → wx.heap.size = w.heap.size + 1 → Calls Tryz.prog 48 #[.pointer ptr, .float .f64 o.f] wx fun x w1 => x = .returned (.tuple #[]) ∧ Post wx w1) :
    Calls Tryz.prog 7 #[.pointer ptr, .agg (o.c 5)] w fun x w' => x = .returned (.tuple #[]) ∧ Wdd w Post w' := by
  obtain ⟨wx, hwx, bx, sx, ⟨r0, r1, r2, r3, r4, r5, r6, r7, rh, r40, r41⟩⟩ := op_block o hh 5 w
  have HC := K.Hid.mk' (H wx bx sx)
  have BX := K.Hid.mk' bx
  have SX := K.Hid.mk' sx
  have PH := K.Hid.mk' rh
  clear H bx sx rh
  generalize o.c 5 = C at *
  go_enter Tryz.func7, Tryz.ntmps7
  go_upto_region 1 with fail
  rw [← hwx]
  clear hwx
  go_wp2_with fail
  refine HC.out.mono ?_
  rintro x w1 ⟨rfl, hp⟩
  have HP := K.Hid.mk' hp
  clear hp HC r0 r1 r2 r3 r4 r5 r6 r7 r40 r41
  go_wp2
  go_end0
  exact ⟨rfl, _, BX.out, SX.out, HP.out⟩

set_option maxRecDepth 100000 in
set_option maxHeartbeats 2000000 in
theorem wref_6 (ptr : Option Addr) (o : OpV) (hh : o.h.length = 32) (w : World) (Post : World → World → Prop)
    (H : ∀ wx, Below w.heap.size w wx → wx.heap.size = w.heap.size + 1 → Calls Tryz.prog 49 #[.pointer ptr, .string o.s] wx fun x w1 => x = .returned (.tuple #[]) ∧ Post wx w1) :
    Calls Tryz.prog 7 #[.pointer ptr, .agg (o.c 6)] w fun x w' => x = .returned (.tuple #[]) ∧ Wdd w Post w' := by
  obtain ⟨wx, hwx, bx, sx, ⟨r0, r1, r2, r3, r4, r5, r6, r7, rh, r40, r41⟩⟩ := op_block o hh 6 w
  have HC := K.Hid.mk' (H wx bx sx)
  have BX := K.Hid.mk' bx
  have SX := K.Hid.mk' sx
  have PH := K.Hid.mk' rh
  clear H bx sx rh
  generalize o.c 6 = C at *
  go_enter Tryz.func7, Tryz.ntmps7
  go_upto_region 1 with fail
  rw [← hwx]
  clear hwx
  go_wp2_with fail
  refine HC.out.mono ?_
  rintro x w1 ⟨rfl, hp⟩
  have HP := K.Hid.mk' hp
  clear hp HC r0 r1 r2 r3 r4 r5 r6 r7 r40 r41
  go_wp2
  go_end0
  exact ⟨rfl, _, BX.out, SX.out, HP.out⟩

set_option maxRecDepth 100000 in
set_option maxHeartbeats 2000000 in
theorem wref_7 (ptr : Option Addr) (o : OpV) (hh : o.h.length = 32) (w : World) (Post : World → World → Prop)
    (H : ∀ wx, Below w.heap.size w wx → wx.heap.size = w.heap.size + 1 → Calls Tryz.prog 50 #[.pointer ptr, .slice o.ra o.rn o.rc] wx fun x w1 => x = .returned (.tuple #[]) ∧ Post wx w1) :
    Calls Tryz.prog 7 #[.pointer ptr, .agg (o.c 7)] w fun x w' => x = .returned (.tuple #[]) ∧ Wdd w Post w' := by
  obtain ⟨wx, hwx, bx, sx, ⟨r0, r1, r2, r3, r4, r5, r6, r7, rh, r40, r41⟩⟩ := op_block o hh 7 w
  have HC := K.Hid.mk' (H wx bx sx)
  have BX := K.Hid.mk' bx
  have SX := K.Hid.mk' sx
  have PH := K.Hid.mk' rh
  clear H bx sx rh
  generalize o.c 7 = C at *
  go_enter Tryz.func7, Tryz.ntmps7
  go_upto_region 1 with fail
  rw [← hwx]
  clear hwx
  go_wp2_with fail
  refine HC.out.mono ?_
  rintro x w1 ⟨rfl, hp⟩
  have HP := K.Hid.mk' hp
  clear hp HC r0 r1 r2 r3 r4 r5 r6 r7 r40 r41
  go_wp2
  go_end0
  exact ⟨rfl, _, BX.out, SX.out, HP.out⟩

set_option maxRecDepth 100000 in
set_option maxHeartbeats 2000000 in
theorem wref_8 (ptr : Option Addr) (o : OpV) (hh : o.h.length = 32) (w : World) (Post : World → World → Prop)
    (H : ∀ wx, Below w.heap.size w wx → wx.heap.size = w.heap.size + 1 → Calls Tryz.prog 51 #[.pointer ptr, .agg (bs o.h)] wx fun x w1 => x = .returned (.tuple #[]) ∧ Post wx w1) :
    Calls Tryz.prog 7 #[.pointer ptr, .agg (o.c 8)] w fun x w' => x = .returned (.tuple #[]) ∧ Wdd w Post w' := by
  obtain ⟨wx, hwx, bx, sx, ⟨r0, r1, r2, r3, r4, r5, r6, r7, rh, r40, r41⟩⟩ := op_block o hh 8 w
  have HC := K.Hid.mk' (H wx bx sx)
  have BX := K.Hid.mk' bx
  have SX := K.Hid.mk' sx
  have PH := K.Hid.mk' rh
  clear H bx sx rh
  generalize o.c 8 = C at *
  go_enter Tryz.func7, Tryz.ntmps7
  go_upto_region 1 with fail
  rw [← hwx]
  clear hwx
  go_wp2_with (first
    | (refine wpList_load_midG rfl 36 _ rfl w.heap.size 8 rfl (hcs o.h) _ PH.out Tryz.underlying36 rfl (by rw [hcs_len, hh]; exact hsH) ?_; rw [hcs_arr])
    | fail)
  refine HC.out.mono ?_
  rintro x w1 ⟨rfl, hp⟩
  have HP := K.Hid.mk' hp
  clear hp HC r0 r1 r2 r3 r4 r5 r6 r7 r40 r41
  go_wp2
  go_end0
  exact ⟨rfl, _, BX.out, SX.out, HP.out⟩

set_option maxRecDepth 100000 in
set_option maxHeartbeats 2000000 in
theorem wref_9 (ptr : Option Addr) (o : OpV) (hh : o.h.length = 32) (w : World) (Post : World → World → Prop)
    (H : ∀ wx, Below w.heap.size w wx → wx.heap.size = w.heap.size + 1 → Calls Tryz.prog 52 #[.pointer ptr, .slice o.la o.ln o.lc] wx fun x w1 => x = .returned (.tuple #[]) ∧ Post wx w1) :
    Calls Tryz.prog 7 #[.pointer ptr, .agg (o.c 9)] w fun x w' => x = .returned (.tuple #[]) ∧ Wdd w Post w' := by
  obtain ⟨wx, hwx, bx, sx, ⟨r0, r1, r2, r3, r4, r5, r6, r7, rh, r40, r41⟩⟩ := op_block o hh 9 w
  have HC := K.Hid.mk' (H wx bx sx)
  have BX := K.Hid.mk' bx
  have SX := K.Hid.mk' sx
  have PH := K.Hid.mk' rh
  clear H bx sx rh
  generalize o.c 9 = C at *
  go_enter Tryz.func7, Tryz.ntmps7
  go_upto_region 1 with fail
  rw [← hwx]
  clear hwx
  go_wp2_with fail
  refine HC.out.mono ?_
  rintro x w1 ⟨rfl, hp⟩
  have HP := K.Hid.mk' hp
  clear hp HC r0 r1 r2 r3 r4 r5 r6 r7 r40 r41
  go_wp2
  go_end0
  exact ⟨rfl, _, BX.out, SX.out, HP.out⟩

set_option maxRecDepth 100000 in
set_option maxHeartbeats 2000000 in
theorem wref_10 (ptr : Option Addr) (o : OpV) (hh : o.h.length = 32) (w : World) (Post : World → World → Prop)
    (H : ∀ wx, Below w.heap.size w wx → wx.heap.size = w.heap.size + 1 → Calls Tryz.prog 53 #[.pointer ptr, .int .i64 o.e] wx fun x w1 => x = .returned (.tuple #[]) ∧ Post wx w1) :
    Calls Tryz.prog 7 #[.pointer ptr, .agg (o.c 10)] w fun x w' => x = .returned (.tuple #[]) ∧ Wdd w Post w' := by
  obtain ⟨wx, hwx, bx, sx, ⟨r0, r1, r2, r3, r4, r5, r6, r7, rh, r40, r41⟩⟩ := op_block o hh 10 w
  have HC := K.Hid.mk' (H wx bx sx)
  have BX := K.Hid.mk' bx
  have SX := K.Hid.mk' sx
  have PH := K.Hid.mk' rh
  clear H bx sx rh
  generalize o.c 10 = C at *
  go_enter Tryz.func7, Tryz.ntmps7
  go_upto_region 1 with fail
  rw [← hwx]
  clear hwx
  go_wp2_with fail
  refine HC.out.mono ?_
  rintro x w1 ⟨rfl, hp⟩
  have HP := K.Hid.mk' hp
  clear hp HC r0 r1 r2 r3 r4 r5 r6 r7 r40 r41
  go_wp2
  go_end0
  exact ⟨rfl, _, BX.out, SX.out, HP.out⟩

set_option maxRecDepth 100000 in
set_option maxHeartbeats 2000000 in
theorem wref_no (ptr : Option Addr) (o : OpV) (hh : o.h.length = 32) (k : Int) (hk : k < 0 ∨ 10 < k) (w : World) :
    Calls Tryz.prog 7 #[.pointer ptr, .agg (o.c k)] w fun x w' => x = .returned (.tuple #[]) ∧ Wdd w (fun wx w1 => w1 = wx) w' := by
  obtain ⟨wx, hwx, bx, sx, ⟨r0, r1, r2, r3, r4, r5, r6, r7, rh, r40, r41⟩⟩ := op_block o hh k w
  have BX := K.Hid.mk' bx
  have SX := K.Hid.mk' sx
  have k0 : ¬ k = 0 := by omega
  have k1 : ¬ k = 1 := by omega
  have k2 : ¬ k = 2 := by omega
  have k3 : ¬ k = 3 := by omega
  have k4 : ¬ k = 4 := by omega
  have k5 : ¬ k = 5 := by omega
  have k6 : ¬ k = 6 := by omega
  have k7 : ¬ k = 7 := by omega
  have k8 : ¬ k = 8 := by omega
  have k9 : ¬ k = 9 := by omega
  have k10 : ¬ k = 10 := by omega
  clear bx sx rh hk
  generalize o.c k = C at *
  go_enter Tryz.func7, Tryz.ntmps7
  go_upto_region 1 with fail
  rw [← hwx]
  clear hwx
  go_wp2
  go_end0
  exact ⟨rfl, _, BX.out, SX.out, rfl⟩
end Go.Proofs.YtgiblfhajiakgaaGreatDoor

namespace Go.Proofs.YtgiblfhajiakgaaGreatDoor
open Go.RowKit
set_option linter.unusedVariables false
set_option linter.unusedSimpArgs false

variable {p : Nat} {g : Option Nat} {M : List UInt8} {e : Int}
namespace K
theorem fE0 (e : Int) : fE e 0 = e := by unfold fE; split <;> simp_all
set_option maxRecDepth 100000 in
set_option maxHeartbeats 1000000 in
theorem wtext_bad (s : ByteArray) (hs : s.size ≤ 140737488351232) (hgd : good s.data.toList ≠ s.size) (w : World) (hw : WS w 28 p g M e) (hT : Tabs w) :
    Calls Tryz.prog 28 #[.pointer (some ⟨p, 0, none⟩), .string s] w fun x w' => x = .returned (.tuple #[]) ∧ Wr w w' 28 p g M (fE e 21) := by
  have HV := Hid.mk' (V.valid_any s w (by omega) hT)
  rw [show Lib.validD s.data.toList = false by rw [good_iff]; exact decide_eq_false hgd] at HV
  have HX : Hid (∀ wx, Below w.heap.size w wx → Calls Tryz.prog 43 #[.pointer (some ⟨p, 0, none⟩), .int .i64 21] wx fun x w' => x = .returned (.tuple #[]) ∧ Wr w w' 28 p g M (fE e 21)) := fun wx b => (wfail_any 21 wx (hw.below b)).mono fun x w' h => And.intro h.1 (Wr.pre b h.2)
  clear hw hgd
  go_enter Tryz.func28, Tryz.ntmps28
  go_wp2_with fail
  refine HV.out.mono ?_
  rintro x w1 ⟨rfl, b1⟩
  have B1 := Hid.mk' b1
  clear b1
  go_wp2_with fail
  refine (HX.out _ B1.out).mono ?_
  rintro x w2 ⟨rfl, a2⟩
  have A2 := Hid.mk' a2
  clear a2
  go_wp2
  first | (go_end0; exact ⟨rfl, A2.out⟩) | exact bodyPost_ret (results_none Tryz.results28 _ _ _) rfl ⟨rfl, A2.out⟩
set_option maxRecDepth 100000 in
set_option maxHeartbeats 1000000 in
/-- A zero with a sign is written as 0. -/
theorem wfloat_neg2 {e : Int} (w : World) (hw : WS w 28 p g M e) (hsum : M.length + 64 ≤ 140737488355328) :
    Calls Tryz.prog 29 #[.pointer (some ⟨p, 0, none⟩), .float .f64 9223372036854775808] w fun x w' => x = .returned (.tuple #[]) ∧ Wr w w' 28 p g (wA M e (b8 0)) e := by
  have HFX := Hid.mk' (fun (n : Nat) (hn : n < 4294967296) (v : Int) (hv : v = (n : Int)) (P : List UInt8) (hP : P.length ≤ 50) (wx : World) hx => wfix_wr (p := p) (g := g) (M := M) (e := e) w hsum n hn v hv P hP wx hx)
  have h0 : Hid (Wr w w 28 p g (wA M e []) e) := by show Wr _ _ _ _ _ _ _; rw [wA_nil]; exact hw.wr
  have h1 : finN 9223372036854775808 = true := by decide +kernel
  have HF := Hid.mk' (fun (wx : World) => fin_any 9223372036854775808 wx (by decide))
  rw [h1] at HF
  clear hw hsum h1
  have z : (FloatKind.f64.format.order 9223372036854775808 0 == some .eq) = true := by decide +kernel
  go_enter Tryz.func29, Tryz.ntmps29
  go_wp2_with fail
  refine (HF.out _).mono ?_
  rintro x w1 ⟨rfl, hw1⟩
  subst hw1
  go_wp2_with fail
  refine (HFX.out 0 (by decide) _ (by first | rfl | omega) [] (by decide) _ h0.out).mono ?_
  rintro x w2 ⟨rfl, a2⟩
  have A2 := Hid.mk' a2
  clear a2
  go_wp2_with fail
  refine (HFX.out 0 (by decide) _ (by first | rfl | omega) _ (by simp [b4]) _ A2.out).mono ?_
  rintro x w3 ⟨rfl, a3⟩
  have A3 := Hid.mk' a3
  clear a3
  go_wp2
  go_end0
  exact ⟨rfl, A3.out⟩
end K
theorem wdd_wr2 {w w' : World} {T : TypeId} {M' : List UInt8} {e' : Int} (h : Wdd w (fun wx w1 => K.Wr wx w1 T p g M' e') w') : K.Wr w w' T p g M' e' := by
  obtain ⟨wx, b, _, q⟩ := h
  exact K.Wr.pre b q
theorem wee_wr2 {w w' : World} {T : TypeId} {M' : List UInt8} {e e' : Int} (hw : K.WS w T p g M e) (h : Wee w (fun wx w1 => K.Wr wx w1 T p g M' e') w') : K.Wr w w' T p g M' e' := by
  obtain ⟨wx, w1, b, hz, ⟨g', ws, fr, nw⟩, f⟩ := h
  have hp := hw.lt
  have hb := b.size
  have hf := fr.size
  have hg' : ∀ k, g' = some k → k ≠ w.heap.size + 1 := fun k hk => by
    rcases nw with e | ⟨x, e, hx⟩
    · have := hw.glt (e.symm.trans hk); omega
    · rw [e] at hk; cases hk; omega
  obtain ⟨v, h1, h2, h3⟩ := ws.ex
  refine ⟨g', ⟨⟨v, ?_, ?_, h3⟩, ws.ne⟩, ⟨f.os.trans (fr.os.trans b.os), f.tape.trans (fr.tape.trans b.tape), f.output.trans (fr.output.trans b.output), by have := f.size; omega, fun k hk hkp hkg => ?_⟩, ?_⟩
  · rw [f.block p (by omega) (by omega)]; exact h1
  · refine ⟨h2.1, ?_⟩
    rcases h2.2 with hn | ⟨q, cap, cur, rfl, hbg, hg, rest⟩
    · exact .inl hn
    · refine .inr ⟨q, cap, cur, rfl, hbg, ?_, rest⟩
      have hq1 := (Array.getElem?_eq_some_iff.1 hg).1
      rw [f.block q (hg' q (h3.symm.trans rfl)) hq1]
      exact hg
  · rw [f.block k (by omega) (by omega), fr.block k (by omega) hkp hkg, b.block k hk]
  · rcases nw with e | ⟨x, e, hx⟩
    · exact .inl e
    · exact .inr ⟨x, e, by omega⟩
theorem keeps_wr2 {w wx w1 : World} {T : TypeId} {e e' : Int} {M' : List UInt8} (hw : K.WS w T p g M e) (h : K.Wr wx w1 T p g M' e') : Keeps w.heap.size wx w1 := by
  obtain ⟨g', ws, fr, nw⟩ := h
  exact ⟨fr.size, fun k hk hk2 => fr.block k hk2 (by have := hw.lt; omega) (fun e => by have := hw.glt e.symm; omega)⟩
theorem frw_below2 {W w w' : World} (b : Below W.heap.size W w) (f : K.FrW p g w w') (hp : W.heap.size ≤ p) (hg : ∀ k, g = some k → W.heap.size ≤ k) : Below W.heap.size W w' :=
  { os := f.os.trans b.os, tape := f.tape.trans b.tape, output := f.output.trans b.output, size := Nat.le_trans b.size f.size, block := fun k hk => (f.block k (Nat.lt_of_lt_of_le hk b.size) (by omega) (fun e => by have := hg _ e.symm; omega)).trans (b.block k hk) }
theorem byt_row2 {w : World} {q : Nat} {R : List UInt8} (h : w.heap[q]? = some (.cells (bs (R ++ K.marks)) 5 (0, 0))) : K.Byt w (some ⟨q, 0, none⟩) R :=
  .inr ⟨q, 0, rfl, fun j hj => by
    rw [Nat.zero_add, cell_of_row w q j _ _ _ h]
    have := K.bs_get (R ++ K.marks) j (by simp; omega)
    rw [K.own_at R j hj] at this
    exact this⟩
/-- An Op that lies in memory, with its lists. -/
structure OpW (W : World) (o : OpV) (R : List UInt8) (L : List (List UInt8)) : Prop where
  hh : o.h.length = 32
  u : o.u < 18446744073709551616
  n0 : -9223372036854775808 ≤ o.n
  n1 : o.n < 9223372036854775808
  f : o.f < 18446744073709551616
  b0 : 0 ≤ o.b
  b1 : o.b ≤ 255
  s : o.s.size ≤ 1048576
  r : R.length = o.rn
  rl : o.rn ≤ 1048576
  rb : K.Byt W o.ra R
  l32 : All32 L
  l : L.length = o.ln
  ll : o.ln ≤ 1048576
  lb : Hl W o.la L
def nzW (f : Nat) : Nat := if f = 9223372036854775808 then 0 else f
/-- What is written of an Op. -/
def eW (kd : Int) (o : OpV) (R : List UInt8) (D : List (List UInt8)) : List UInt8 :=
  if kd = 0 then [UInt8.ofNat o.b.toNat] else if kd = 1 then [if o.v = true then 1 else 0] else if kd = 2 then K.b4 (o.u % 4294967296) else if kd = 3 then K.vint o.u else if kd = 4 then K.vint (K.zig o.n)
  else if kd = 5 then (if K.finN o.f = true then K.b8 (nzW o.f) else []) else if kd = 6 then (if K.good o.s.data.toList = o.s.size then K.vint o.s.size ++ o.s.data.toList else []) else if kd = 7 then K.vint o.rn ++ R else if kd = 8 then o.h else if kd = 9 then hw D else []
/-- The error that an Op makes. -/
def fW (kd : Int) (o : OpV) : Int := if kd = 5 ∧ K.finN o.f = false then 21 else if kd = 6 ∧ K.good o.s.data.toList ≠ o.s.size then 21 else if kd = 10 then o.e else 0
set_option maxRecDepth 100000 in
theorem wop_any (W : World) (kd : Int) (o : OpV) (R : List UInt8) (L D : List (List UInt8)) (ok : OpW W o R L) (hD : Srt L D) (hDl : D.length ≤ L.length) (w : World) (bw : Below W.heap.size W w) (hw : K.WS w 28 p g M e) (hp : W.heap.size ≤ p) (hg : ∀ k, g = some k → W.heap.size ≤ k) (hT : K.Tabs w)
    (hsum : M.length + 33555000 ≤ 140737488351232) :
    Calls Tryz.prog 6 #[.pointer (some ⟨p, 0, none⟩), .agg (o.c kd)] w fun x w' => x = .returned (.bool true) ∧ K.Wr w w' 28 p g (K.wA M e (eW kd o R D)) (K.fE e (fW kd o)) := by
  have fin : ∀ {E : List UInt8} {c : Int} {x : Ending} {w' : World}, eW kd o R D = E → fW kd o = c → (x = .returned (.bool true) ∧ Wdd w (fun wx w1 => K.Wr wx w1 28 p g (K.wA M e E) (K.fE e c)) w') → (x = .returned (.bool true) ∧ K.Wr w w' 28 p g (K.wA M e (eW kd o R D)) (K.fE e (fW kd o))) := fun he hc h => ⟨h.1, by rw [he, hc]; exact wdd_wr2 h.2⟩
  have hrn := ok.rl
  have hln := ok.ll
  have hsn := ok.s
  have hlr := ok.r
  have hl' := ok.l
  have hbs := bw.size
  have up : ∀ {wx w1 : World} {x : Ending} {E : List UInt8}, (x = .returned (.tuple #[]) ∧ K.Wr wx w1 28 p g (K.wA M e E) e) → (x = .returned (.tuple #[]) ∧ K.Wr wx w1 28 p g (K.wA M e E) (K.fE e 0)) := fun h => by rw [K.fE0]; exact h
  have dn : ∀ {wx w1 : World} {x : Ending} {c : Int}, (x = .returned (.tuple #[]) ∧ K.Wr wx w1 28 p g M (K.fE e c)) → (x = .returned (.tuple #[]) ∧ K.Wr wx w1 28 p g (K.wA M e []) (K.fE e c)) := fun h => by rw [K.wA_nil]; exact h
  by_cases hk : kd < 0 ∨ 10 < kd
  · refine (write_no _ o ok.hh kd hk w).mono fun x w' h => ⟨h.1, ?_⟩
    have e1 : eW kd o R D = [] := by unfold eW; repeat (rw [if_neg (by omega)])
    have e2 : fW kd o = 0 := by unfold fW; repeat (rw [if_neg (by omega)])
    rw [e1, e2, K.wA_nil, K.fE0]
    obtain ⟨wx, b, _, rfl⟩ := h.2
    exact K.Wr.pre b (hw.below b).wr
  have : kd = 0 ∨ kd = 1 ∨ kd = 2 ∨ kd = 3 ∨ kd = 4 ∨ kd = 5 ∨ kd = 6 ∨ kd = 7 ∨ kd = 8 ∨ kd = 9 ∨ kd = 10 := by omega
  rcases this with e1 | e1 | e1 | e1 | e1 | e1 | e1 | e1 | e1 | e1 | e1 <;> subst e1
  · have b0 := ok.b0
    have b1 := ok.b1
    exact (write_0 _ o ok.hh w _ (fun wx bx _ => (K.wbyte_any (UInt8.ofNat o.b.toNat) o.b (by rw [UInt8.toNat_ofNat']; omega) wx (hw.below bx) (by omega)).mono fun _ _ h => up h)).mono fun x w' h => fin (by simp [eW]) (by simp [fW]) h
  · exact (write_1 _ o ok.hh w _ (fun wx bx _ => (K.wbool_any o.v wx (hw.below bx) (by omega)).mono fun _ _ h => up h)).mono fun x w' h => fin (by simp [eW]) (by simp [fW]) h
  · refine (write_2 _ o ok.hh w _ (fun wx bx _ => ?_)).mono fun x w' h => fin (E := K.b4 (o.u % 4294967296)) (c := 0) (by simp [eW]) (by simp [fW]) h
    have := K.wfix_any (o.u % 4294967296) (by omega) wx (hw.below bx) (by omega)
    rw [show ((o.u % 4294967296 : Nat) : Int) = (o.u : Int) % 4294967296 by omega] at this
    exact this.mono fun _ _ h => up h
  · exact (write_3 _ o ok.hh w _ (fun wx bx _ => (K.wuint_any o.u ok.u wx (hw.below bx) (by omega)).mono fun _ _ h => up h)).mono fun x w' h => fin (by simp [eW]) (by simp [fW]) h
  · exact (write_4 _ o ok.hh w _ (fun wx bx _ => (K.wint_any o.n ok.n0 ok.n1 wx (hw.below bx) (by omega)).mono fun _ _ h => up h)).mono fun x w' h => fin (by simp [eW]) (by simp [fW]) h
  · by_cases hfn : K.finN o.f = true
    · by_cases hz : o.f = 9223372036854775808
      · refine (write_5 _ o ok.hh w _ (fun wx bx _ => ?_)).mono fun x w' h => fin (E := K.b8 0) (c := 0) (by unfold eW; rw [if_neg (by decide), if_neg (by decide), if_neg (by decide), if_neg (by decide), if_neg (by decide), if_pos rfl, if_pos hfn]; unfold nzW; rw [if_pos hz]) (by simp [fW, hfn]) h
        rw [hz]
        exact (K.wfloat_neg2 wx (hw.below bx) (by omega)).mono fun _ _ h => up h
      · exact (write_5 _ o ok.hh w _ (fun wx bx _ => (K.wfloat_any o.f ok.f (by unfold K.finB; rw [hfn, decide_eq_true hz]; rfl) wx (hw.below bx) (by omega)).mono fun _ _ h => up h)).mono fun x w' h => fin (by simp [eW, hfn, nzW, hz]) (by simp [fW, hfn]) h
    · have hfn : K.finN o.f = false := by simpa using hfn
      exact (write_5 _ o ok.hh w _ (fun wx bx _ => (K.wfloat_bad o.f ok.f hfn wx (hw.below bx)).mono fun _ _ h => dn h)).mono fun x w' h => fin (by simp [eW, hfn]) (by simp [fW, hfn]) h
  · by_cases hgd : K.good o.s.data.toList = o.s.size
    · exact (write_6 _ o ok.hh w _ (fun wx bx _ => (K.wtext_any o.s (by omega) (by rw [K.good_iff]; exact decide_eq_true hgd) wx (hw.below bx) (hT.below bx) (by omega)).mono fun _ _ h => up h)).mono fun x w' h => fin (by simp [eW, hgd]) (by simp [fW, hgd]) h
    · exact (write_6 _ o ok.hh w _ (fun wx bx _ => (K.wtext_bad o.s (by omega) hgd wx (hw.below bx) (hT.below bx)).mono fun _ _ h => dn h)).mono fun x w' h => fin (by simp [eW, hgd]) (by simp [fW, hgd]) h
  · have rbw : K.Byt w o.ra R := K.byt_below ok.rb bw
    refine (write_7 _ o ok.hh R ok.r (by omega) w rbw (fun wx w1 => K.Wr wx w1 28 p g (K.wA M e (K.vint o.rn ++ R)) e) (fun wx bx hz hrow => ?_)).mono fun x w' h => ⟨h.1, by rw [show eW 7 o R D = K.vint o.rn ++ R by simp [eW], show fW 7 o = 0 by simp [fW], K.fE0]; exact wee_wr2 hw h.2⟩
    have hlp := hw.lt
    refine (K.wraw_any R (some ⟨w.heap.size + 1, 0, none⟩) o.rn (o.rn + 9) wx (hw.below bx) ok.r (byt_row2 hrow) (fun ad e => by cases e; exact ⟨by show w.heap.size + 1 ≠ p; omega, fun e => by have h9 : w.heap.size + 1 < w.heap.size := hw.glt e.symm; omega⟩) (fun ad e => by cases e; exact hz) (by omega)).mono fun x w1 h => ⟨h.1, h.2, keeps_wr2 hw h.2, ?_⟩
    obtain ⟨g', ws, fr, nw⟩ := h.2
    exact K.byt_below ok.rb (frw_below2 (bw.trans (bx.mono bw.size)) fr hp hg)
  · exact (write_8 _ o ok.hh w _ (fun wx bx _ => (whash_any o.h ok.hh wx (hw.below bx) (by omega)).mono fun _ _ h => up h)).mono fun x w' h => fin (by simp [eW]) (by simp [fW]) h
  · refine (write_9 _ o ok.hh L ok.l32 ok.l (by omega) w (ok.lb.below ok.l32 bw) (fun wx w1 => K.Wr wx w1 28 p g (K.wA M e (Go.Proofs.YtgiblfhajiakgaaGreatDoor.hw D)) e) (fun wx bx hz hs => ?_)).mono fun x w' h => ⟨h.1, by rw [show eW 9 o R D = Go.Proofs.YtgiblfhajiakgaaGreatDoor.hw D by simp [eW], show fW 9 o = 0 by simp [fW], K.fE0]; exact wee_wr2 hw h.2⟩
    have := whashes_e ⟨w.heap.size + 1, 0, none⟩ L (o.ln + 9) wx ok.l32 (by omega) (.inr ⟨_, _, rfl, hs⟩) (hw.below bx) (by omega)
    rw [hl'] at this
    refine this.mono fun x w1 h => ?_
    obtain ⟨h1, D', ⟨s1, s2, s3⟩, _, wr⟩ := h
    obtain rfl : D' = D := SRise.unique D' D s2 s1 hD.1 (fun x => (s3 x).trans (hD.2.2 x).symm)
    refine ⟨h1, wr, keeps_wr2 hw wr, ?_⟩
    obtain ⟨g', ws, fr, nw⟩ := wr
    exact ok.lb.below ok.l32 (frw_below2 (bw.trans (bx.mono bw.size)) fr hp hg)
  · exact (write_10 _ o ok.hh w _ (fun wx bx _ => (show Calls _ _ _ _ _ from K.wfail_any o.e wx (hw.below bx)).mono fun _ _ h => dn (c := o.e) h)).mono fun x w' h => fin (by simp [eW]) (by simp [fW]) h
set_option maxRecDepth 100000 in
theorem xop_any (W : World) (kd : Int) (o : OpV) (R : List UInt8) (L D : List (List UInt8)) (ok : OpW W o R L) (hD : Srt L D) (hDl : D.length ≤ L.length) (w : World) (bw : Below W.heap.size W w) (hw : K.WS w 31 p g M e) (hp : W.heap.size ≤ p) (hg : ∀ k, g = some k → W.heap.size ≤ k)
    (hsum : M.length + 33555000 ≤ 140737488351232) :
    Calls Tryz.prog 7 #[.pointer (some ⟨p, 0, none⟩), .agg (o.c kd)] w fun x w' => x = .returned (.tuple #[]) ∧ K.Wr w w' 31 p g (K.wA M e (eW kd o R D)) (K.fE e (fW kd o)) := by
  have fin : ∀ {E : List UInt8} {c : Int} {x : Ending} {w' : World}, eW kd o R D = E → fW kd o = c → (x = .returned (.tuple #[]) ∧ Wdd w (fun wx w1 => K.Wr wx w1 31 p g (K.wA M e E) (K.fE e c)) w') → (x = .returned (.tuple #[]) ∧ K.Wr w w' 31 p g (K.wA M e (eW kd o R D)) (K.fE e (fW kd o))) := fun he hc h => ⟨h.1, by rw [he, hc]; exact wdd_wr2 h.2⟩
  have hrn := ok.rl
  have hln := ok.ll
  have hsn := ok.s
  have hlr := ok.r
  have hl' := ok.l
  have hbs := bw.size
  have up : ∀ {wx w1 : World} {x : Ending} {E : List UInt8}, (x = .returned (.tuple #[]) ∧ K.Wr wx w1 31 p g (K.wA M e E) e) → (x = .returned (.tuple #[]) ∧ K.Wr wx w1 31 p g (K.wA M e E) (K.fE e 0)) := fun h => by rw [K.fE0]; exact h
  have dn : ∀ {wx w1 : World} {x : Ending} {c : Int}, (x = .returned (.tuple #[]) ∧ K.Wr wx w1 31 p g M (K.fE e c)) → (x = .returned (.tuple #[]) ∧ K.Wr wx w1 31 p g (K.wA M e []) (K.fE e c)) := fun h => by rw [K.wA_nil]; exact h
  by_cases hk : kd < 0 ∨ 10 < kd
  · refine (wref_no _ o ok.hh kd hk w).mono fun x w' h => ⟨h.1, ?_⟩
    have e1 : eW kd o R D = [] := by unfold eW; repeat (rw [if_neg (by omega)])
    have e2 : fW kd o = 0 := by unfold fW; repeat (rw [if_neg (by omega)])
    rw [e1, e2, K.wA_nil, K.fE0]
    obtain ⟨wx, b, _, rfl⟩ := h.2
    exact K.Wr.pre b (hw.below b).wr
  have : kd = 0 ∨ kd = 1 ∨ kd = 2 ∨ kd = 3 ∨ kd = 4 ∨ kd = 5 ∨ kd = 6 ∨ kd = 7 ∨ kd = 8 ∨ kd = 9 ∨ kd = 10 := by omega
  rcases this with e1 | e1 | e1 | e1 | e1 | e1 | e1 | e1 | e1 | e1 | e1 <;> subst e1
  · have b0 := ok.b0
    have b1 := ok.b1
    exact (wref_0 _ o ok.hh w _ (fun wx bx _ => (K.xbyte_any (UInt8.ofNat o.b.toNat) o.b (by rw [UInt8.toNat_ofNat']; omega) wx (hw.below bx) (by omega)).mono fun _ _ h => up h)).mono fun x w' h => fin (by simp [eW]) (by simp [fW]) h
  · exact (wref_1 _ o ok.hh w _ (fun wx bx _ => (K.xbool_any o.v wx (hw.below bx) (by omega)).mono fun _ _ h => up h)).mono fun x w' h => fin (by simp [eW]) (by simp [fW]) h
  · refine (wref_2 _ o ok.hh w _ (fun wx bx _ => ?_)).mono fun x w' h => fin (E := K.b4 (o.u % 4294967296)) (c := 0) (by simp [eW]) (by simp [fW]) h
    have := K.xfix_any (o.u % 4294967296) (by omega) wx (hw.below bx) (by omega)
    rw [show ((o.u % 4294967296 : Nat) : Int) = (o.u : Int) % 4294967296 by omega] at this
    exact this.mono fun _ _ h => up h
  · exact (wref_3 _ o ok.hh w _ (fun wx bx _ => (K.xuint_any o.u ok.u wx (hw.below bx) (by omega)).mono fun _ _ h => up h)).mono fun x w' h => fin (by simp [eW]) (by simp [fW]) h
  · exact (wref_4 _ o ok.hh w _ (fun wx bx _ => (K.xint_any o.n ok.n0 ok.n1 wx (hw.below bx) (by omega)).mono fun _ _ h => up h)).mono fun x w' h => fin (by simp [eW]) (by simp [fW]) h
  · by_cases hfn : K.finN o.f = true
    · by_cases hz : o.f = 9223372036854775808
      · refine (wref_5 _ o ok.hh w _ (fun wx bx _ => ?_)).mono fun x w' h => fin (E := K.b8 0) (c := 0) (by unfold eW; rw [if_neg (by decide), if_neg (by decide), if_neg (by decide), if_neg (by decide), if_neg (by decide), if_pos rfl, if_pos hfn]; unfold nzW; rw [if_pos hz]) (by simp [fW, hfn]) h
        rw [hz]
        exact (K.xfloat_neg wx (hw.below bx) (by omega)).mono fun _ _ h => up h
      · exact (wref_5 _ o ok.hh w _ (fun wx bx _ => (K.xfloat_any o.f ok.f (by unfold K.finB; rw [hfn, decide_eq_true hz]; rfl) wx (hw.below bx) (by omega)).mono fun _ _ h => up h)).mono fun x w' h => fin (by simp [eW, hfn, nzW, hz]) (by simp [fW, hfn]) h
    · have hfn : K.finN o.f = false := by simpa using hfn
      exact (wref_5 _ o ok.hh w _ (fun wx bx _ => (K.xfloat_bad o.f hfn wx (hw.below bx)).mono fun _ _ h => dn h)).mono fun x w' h => fin (by simp [eW, hfn]) (by simp [fW, hfn]) h
  · by_cases hgd : K.good o.s.data.toList = o.s.size
    · exact (wref_6 _ o ok.hh w _ (fun wx bx _ => (K.xtext_any o.s (by omega) hgd wx (hw.below bx) (by omega)).mono fun _ _ h => up h)).mono fun x w' h => fin (by simp [eW, hgd]) (by simp [fW, hgd]) h
    · exact (wref_6 _ o ok.hh w _ (fun wx bx _ => (K.xtext_bad o.s (by omega) hgd wx (hw.below bx)).mono fun _ _ h => dn h)).mono fun x w' h => fin (by simp [eW, hgd]) (by simp [fW, hgd]) h
  · refine (wref_7 _ o ok.hh w _ (fun wx bx _ => ?_)).mono fun x w' h => fin (E := K.vint o.rn ++ R) (c := 0) (by simp [eW]) (by simp [fW]) h
    have bwx : Below W.heap.size W wx := bw.trans (bx.mono bw.size)
    have hbx := K.byt_below ok.rb bwx
    rcases ok.rb with h0 | ⟨b, off, ha, hc⟩
    · have e0 : o.rn = 0 := by rw [← ok.r, h0]; rfl
      rw [e0, h0, List.append_nil]
      exact (K.xraw_nil o.ra o.rc wx (hw.below bx) (by omega)).mono fun _ _ h => up h
    · by_cases hR : 0 < R.length
      · have hbl : b < W.heap.size := K.byt_lt ok.rb hR ha
        rw [ha] at hbx ⊢
        exact (K.xraw_any R b off o.rn o.rc wx (hw.below bx) ok.r hbx ⟨by omega, fun e => by have := hg b e.symm; omega⟩ (by have := bwx.size; omega) (by omega)).mono fun _ _ h => up h
      · have h0 : R = [] := List.eq_nil_of_length_eq_zero (by omega)
        have e0 : o.rn = 0 := by rw [← ok.r, h0]; rfl
        rw [e0, h0, List.append_nil]
        exact (K.xraw_nil o.ra o.rc wx (hw.below bx) (by omega)).mono fun _ _ h => up h
  · exact (wref_8 _ o ok.hh w _ (fun wx bx _ => (K.xhash_any o.h ok.hh wx (hw.below bx) (by omega)).mono fun _ _ h => up h)).mono fun x w' h => fin (by simp [eW]) (by simp [fW]) h
  · refine (wref_9 _ o ok.hh w _ (fun wx bx _ => ?_)).mono fun x w' h => fin (E := Go.Proofs.YtgiblfhajiakgaaGreatDoor.hw D) (c := 0) (by simp [eW]) (by simp [fW]) h
    have := xhashes_any o.la L D o.lc wx ok.l32 (by omega) (ok.lb.below ok.l32 (bw.trans (bx.mono bw.size))) hD hDl (hw.below bx) (by omega)
    rw [hl'] at this
    exact this.mono fun _ _ h => up h
  · exact (wref_10 _ o ok.hh w _ (fun wx bx _ => (K.xfail_any o.e wx (hw.below bx)).mono fun _ _ h => dn (c := o.e) h)).mono fun x w' h => fin (by simp [eW]) (by simp [fW]) h
end Go.Proofs.YtgiblfhajiakgaaGreatDoor

namespace Go.Proofs.YtgiblfhajiakgaaGreatDoor
open Go.RowKit
set_option linter.unusedVariables false
set_option linter.unusedSimpArgs false

theorem srise_nil2 : SRise [] := fun i j x y h => by simp at h
def insS (x : List UInt8) : List (List UInt8) → List (List UInt8)
  | [] => [x]
  | y :: r => if cmpL x y < 0 then x :: y :: r else if cmpL y x < 0 then y :: insS x r else y :: r
theorem insS_mem {x : List UInt8} (hx : x.length = 32) : ∀ {D : List (List UInt8)}, All32 D → ∀ z, z ∈ insS x D ↔ z = x ∨ z ∈ D
  | [], _, z => by simp [insS]
  | y :: r, h, z => by
    have hy := h y (by simp)
    unfold insS
    split
    · simp
    · split
      · rw [List.mem_cons, insS_mem hx (fun a ha => h a (by simp [ha])) z, List.mem_cons]
        constructor
        · rintro (e | e | e)
          · exact .inr (.inl e)
          · exact .inl e
          · exact .inr (.inr e)
        · rintro (e | e | e)
          · exact .inr (.inl e)
          · exact .inl e
          · exact .inr (.inr e)
      · rename_i h1 h2
        have e0 : x = y := (cmpL_zero hx hy).1 (by have := cmpL_neg hx hy; omega)
        subst e0
        simp
theorem insS_rise {x : List UInt8} (hx : x.length = 32) : ∀ {D : List (List UInt8)}, All32 D → SRise D → SRise (insS x D)
  | [], _, _ => srise_cons srise_nil2 (fun y h => by cases h)
  | y :: r, h, hs => by
    have hy := h y (by simp)
    have h32 : All32 r := fun a ha => h a (by simp [ha])
    unfold insS
    split
    · rename_i h1
      refine srise_cons hs (fun z hz => ?_)
      rcases List.mem_cons.1 hz with rfl | hz
      · exact h1
      · exact lt_trans hx hy (h32 z hz) h1 (hs.head hz)
    · split
      · rename_i h2
        refine srise_cons (insS_rise hx h32 hs.tail) (fun z hz => ?_)
        rcases (insS_mem hx h32 z).1 hz with rfl | hz
        · exact h2
        · exact hs.head hz
      · exact hs
theorem insS_len (x : List UInt8) : ∀ (D : List (List UInt8)), (insS x D).length ≤ D.length + 1
  | [] => by simp [insS]
  | y :: r => by
    have := insS_len x r
    unfold insS
    split
    · simp
    · split
      · simp; omega
      · simp
theorem srt_ex : ∀ (L : List (List UInt8)), All32 L → ∃ D, Srt L D ∧ D.length ≤ L.length
  | [], _ => ⟨[], ⟨srise_nil2, (fun x h => by cases h), fun x => Iff.rfl⟩, Nat.le_refl _⟩
  | x :: r, h => by
    have hx := h x (by simp)
    obtain ⟨D, ⟨s1, s2, s3⟩, hl⟩ := srt_ex r (fun a ha => h a (by simp [ha]))
    refine ⟨insS x D, ⟨insS_rise hx s2 s1, fun z hz => ?_, fun z => ?_⟩, ?_⟩
    · rcases (insS_mem hx s2 z).1 hz with rfl | hz
      · exact hx
      · exact s2 z hz
    · rw [insS_mem hx s2 z, List.mem_cons, s3 z]
    · have := insS_len x D
      simp only [List.length_cons]
      omega


/-- Ops that lie in memory. -/
def Opw (W : World) (a : Option Addr) (l : List (Int × OpV)) : Prop := l = [] ∨ ∃ b off, a = some ⟨b, off, none⟩ ∧ ∀ (i : Nat) (k : Int) (o : OpV), l[i]? = some (k, o) → W.rangeAt b (off + 42 * i) (o.c k).toList ∧ ∃ R L, OpW W o R L
theorem Opw.at {W : World} {a : Option Addr} {l : List (Int × OpV)} (h : Opw W a l) {i : Nat} (hi : i < l.length) : ∃ b off k o R L, a = some ⟨b, off, none⟩ ∧ l[i]? = some (k, o) ∧ W.rangeAt b (off + 42 * i) (o.c k).toList ∧ OpW W o R L ∧ b < W.heap.size := by
  rcases h with rfl | ⟨b, off, rfl, h⟩
  · simp at hi
  · obtain ⟨⟨k, o⟩, e⟩ : ∃ x, l[i]? = some x := ⟨_, List.getElem?_eq_getElem hi⟩
    obtain ⟨h1, R, L, h2⟩ := h i k o e
    refine ⟨b, off, k, o, R, L, rfl, e, h1, h2, rangeAt_lt h1 ?_⟩
    rw [oc_len o k h2.hh]
    omega
theorem eW_len {W : World} {kd : Int} {o : OpV} {R : List UInt8} {L D : List (List UInt8)} (ok : OpW W o R L) (hD : Srt L D) (hDl : D.length ≤ L.length) : (eW kd o R D).length ≤ 33554500 := by
  have h1 := K.vint_10 o.u ok.u
  have h2 : (K.vint (K.zig o.n)).length ≤ 10 := K.vint_10 _ (by have := ok.n0; have := ok.n1; unfold K.zig; split <;> omega)
  have h3 := K.vint_10 o.s.size (by have := ok.s; omega)
  have h4 := K.vint_10 o.rn (by have := ok.rl; omega)
  have h5 := K.vint_10 D.length (by have := ok.ll; have := ok.l; omega)
  have h6 := cat_len hD.2.1
  have h7 := ok.s
  have h8 := ok.r
  have h9 := ok.rl
  have h10 := ok.l
  have h11 := ok.ll
  have h12 := ok.hh
  have h13 : o.s.data.toList.length = o.s.size := by simp
  have h14 : ∀ f, (K.b8 f).length = 8 := fun f => rfl
  have h15 : ∀ f, (K.b4 f).length = 4 := fun f => rfl
  unfold eW
  repeat' split
  all_goals first
    | (simp only [List.length_append, List.length_cons, List.length_nil, h14, h15, hw]; omega)
    | (simp only [List.length_append, List.length_cons, List.length_nil, h14, h15, hw, h13]; omega)
    | (rw [h14]; omega)
    | (rw [h15]; omega)
    | omega
end Go.Proofs.YtgiblfhajiakgaaGreatDoor

namespace Go.Proofs.YtgiblfhajiakgaaGreatDoor.K
open Go.RowKit
set_option linter.unusedVariables false
set_option linter.unusedSimpArgs false

theorem WS.frw {w w' : World} {T : TypeId} {p q : Nat} {g g2 : Option Nat} {M : List UInt8} {e : Int} (h : WS w T q g2 M e) (f : FrW p g w w') (h1 : q ≠ p) (h2 : some q ≠ g) (h3 : ∀ k, g2 = some k → k ≠ p ∧ some k ≠ g) : WS w' T q g2 M e := by
  obtain ⟨v, hq, own, hg⟩ := h.ex
  refine ⟨⟨v, by rw [f.block q (Array.getElem?_eq_some_iff.1 hq).1 h1 h2]; exact hq, ⟨own.1, ?_⟩, hg⟩, h.ne⟩
  rcases own.2 with hn | ⟨gg, cap, cur, rfl, hbg, hgg, rest⟩
  · exact .inl hn
  · obtain ⟨h4, h5⟩ := h3 gg (by rw [← hg]; rfl)
    exact .inr ⟨gg, cap, cur, rfl, hbg, by rw [f.block gg (Array.getElem?_eq_some_iff.1 hgg).1 h4 h5]; exact hgg, rest⟩
/-- Both Writers, and what was there. -/
structure MW (w W : World) (p m : Nat) (g1 g2 : Option Nat) (M1 : List UInt8) (e1 : Int) (M2 : List UInt8) (e2 : Int) : Prop where
  s1 : WS W 28 p g1 M1 e1
  s2 : WS W 31 m g2 M2 e2
  bel : Below w.heap.size w W
  lp : w.heap.size ≤ p
  lm : w.heap.size ≤ m
  l1 : ∀ k, g1 = some k → w.heap.size ≤ k
  l2 : ∀ k, g2 = some k → w.heap.size ≤ k
  ne : p ≠ m
  n1 : g1 ≠ some m
  n2 : g2 ≠ some p
  n3 : ∀ k, g1 = some k → g2 ≠ some k
section
variable {w W : World} {p m : Nat} {g1 g2 : Option Nat} {M1 M2 : List UInt8} {e1 e2 : Int}
theorem MW.frw1 (h : MW w W p m g1 g2 M1 e1 M2 e2) {W' : World} (f : FrW p g1 W W') : Below w.heap.size w W' :=
  h.bel.trans ⟨f.os, f.tape, f.output, f.size, fun k hk => f.block k (by have := h.bel.size; omega) (by have := h.lp; omega) (fun e => by have := h.l1 k e.symm; omega)⟩
theorem MW.frw2 (h : MW w W p m g1 g2 M1 e1 M2 e2) {W' : World} (f : FrW m g2 W W') : Below w.heap.size w W' :=
  h.bel.trans ⟨f.os, f.tape, f.output, f.size, fun k hk => f.block k (by have := h.bel.size; omega) (by have := h.lm; omega) (fun e => by have := h.l2 k e.symm; omega)⟩
theorem MW.on1 (h : MW w W p m g1 g2 M1 e1 M2 e2) {W' : World} {M' : List UInt8} {e' : Int} (o : Wr W W' 28 p g1 M' e') : ∃ g', MW w W' p m g' g2 M' e' M2 e2 := by
  obtain ⟨g', ws, fr, nw⟩ := o
  have hz := h.bel.size
  have lm := h.s2.lt
  refine ⟨g', ws, h.s2.frw fr (fun e => h.ne e.symm) (fun e => h.n1 e.symm) (fun k hk => ⟨fun e => h.n2 (by rw [hk, e]), fun e => h.n3 k e.symm hk⟩), h.frw1 fr, h.lp, h.lm, fun k hk => ?_, h.l2, h.ne, ?_, h.n2, fun k hk => ?_⟩
  · rcases nw with e | ⟨x, e, hx⟩
    · exact h.l1 k (e ▸ hk)
    · rw [e] at hk; cases hk; omega
  · rcases nw with e | ⟨x, e, hx⟩
    · rw [e]; exact h.n1
    · rw [e]; intro hh; cases hh; omega
  · rcases nw with e | ⟨x, e, hx⟩
    · exact h.n3 k (e ▸ hk)
    · rw [e] at hk; cases hk
      intro hh
      have := h.s2.glt hh
      omega
theorem MW.on2 (h : MW w W p m g1 g2 M1 e1 M2 e2) {W' : World} {M' : List UInt8} {e' : Int} (o : Wr W W' 31 m g2 M' e') : ∃ g', MW w W' p m g1 g' M1 e1 M' e' := by
  obtain ⟨g', ws, fr, nw⟩ := o
  have hz := h.bel.size
  have lp := h.s1.lt
  refine ⟨g', h.s1.frw fr h.ne (fun e => h.n2 e.symm) (fun k hk => ⟨fun e => h.n1 (by rw [hk, e]), fun e => h.n3 k hk e.symm⟩), ws, h.frw2 fr, h.lp, h.lm, h.l1, fun k hk => ?_, h.ne, h.n1, ?_, fun k hk => ?_⟩
  · rcases nw with e | ⟨x, e, hx⟩
    · exact h.l2 k (e ▸ hk)
    · rw [e] at hk; cases hk; omega
  · rcases nw with e | ⟨x, e, hx⟩
    · rw [e]; exact h.n2
    · rw [e]; intro hh; cases hh; omega
  · rcases nw with e | ⟨x, e, hx⟩
    · rw [e]; exact h.n3 k hk
    · rw [e]; intro hh; cases hh
      have := h.s1.glt hk
      omega
theorem MW.below (h : MW w W p m g1 g2 M1 e1 M2 e2) {W' : World} (b : Below W.heap.size W W') : MW w W' p m g1 g2 M1 e1 M2 e2 :=
  ⟨h.s1.below b, h.s2.below b, h.bel.trans (b.mono h.bel.size), h.lp, h.lm, h.l1, h.l2, h.ne, h.n1, h.n2, h.n3⟩
end
end Go.Proofs.YtgiblfhajiakgaaGreatDoor.K

