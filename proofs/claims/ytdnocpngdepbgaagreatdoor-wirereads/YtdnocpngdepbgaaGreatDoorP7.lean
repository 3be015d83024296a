import Derived.Test.YtdnocpngdepbgaaGreatDoorKGv
import Derived.Ground.NamesProg
import Derived.Shelf.Unicode.ValidAny
import Derived.Test.YtdnocpngdepbgaaGreatDoorP2
import Derived.Test.YtdnocpngdepbgaaGreatDoorP3
import Derived.Test.YtdnocpngdepbgaaGreatDoorP0
import Derived.Test.YtdnocpngdepbgaaGreatDoorP1
import Derived.Test.YtdnocpngdepbgaaGreatDoorKPi
import Derived.Test.YtdnocpngdepbgaaGreatDoorP6
import Derived.Test.YtdnocpngdepbgaaGreatDoorRows
import Derived.Test.YtdnocpngdepbgaaGreatDoorHh
import Derived.WalkKit
import Derived.ProofKit
import Derived.OpenShut
import Derived.ShutString
import Derived.ChangeOld
import Derived.Below
import Derived.SizedLaws
import Derived.Deep.Slices
namespace Go.Proofs.YtdnocpngdepbgaaGreatDoor.K
open Go.RowKit Go.Shelf
set_option linter.unusedVariables false
set_option linter.unusedSimpArgs false
namespace V

def laysValid_ren : Go.Shelf.Ren := ⟨fun | 196 => 101 | 259 => 129 | n => n, fun | 9 => 9 | 4 => 4 | 3 => 3 | 5 => 5 | 12 => 12 | 119 => 193 | 0 => 0 | 46 => 121 | 139 => 196 | 138 => 195 | 53 => 33 | n => n, fun | 3 => 0 | 4 => 1 | n => n⟩
theorem laysValid : Lays.n196 Tryz.prog laysValid_ren := {
  mixed := by kernel_rfl
  f196 := Tryz.func101.trans (congrArg some (by kernel_rfl))
  f259 := Tryz.func129.trans (congrArg some (by kernel_rfl))
  t0 := Tryz.underlying0
  a0 := Tryz.isAgg0
  z0 := Tryz.sizeOf0
  v0 := Tryz.zeroValue0
  t3 := Tryz.underlying3
  a3 := Tryz.isAgg3
  z3 := Tryz.sizeOf3
  v3 := Tryz.zeroValue3
  t4 := Tryz.underlying4
  a4 := Tryz.isAgg4
  z4 := Tryz.sizeOf4
  v4 := Tryz.zeroValue4
  t5 := Tryz.underlying5
  a5 := Tryz.isAgg5
  z5 := Tryz.sizeOf5
  v5 := Tryz.zeroValue5
  t9 := Tryz.underlying9
  a9 := Tryz.isAgg9
  z9 := Tryz.sizeOf9
  v9 := Tryz.zeroValue9
  t12 := Tryz.underlying12
  a12 := Tryz.isAgg12
  z12 := Tryz.sizeOf12
  v12 := Tryz.zeroValue12
  t46 := Tryz.underlying121
  a46 := Tryz.isAgg121
  z46 := Tryz.sizeOf121
  v46 := Tryz.zeroValue121
  t53 := Tryz.underlying33
  a53 := Tryz.isAgg33
  z53 := Tryz.sizeOf33
  v53 := Tryz.zeroValue33
  t119 := Tryz.underlying193
  a119 := Tryz.isAgg193
  z119 := Tryz.sizeOf193
  t138 := Tryz.underlying195
  a138 := Tryz.isAgg195
  z138 := Tryz.sizeOf195
  v138 := Tryz.zeroValue195
  t139 := Tryz.underlying196
  a139 := Tryz.isAgg196
  z139 := Tryz.sizeOf196
  v139 := Tryz.zeroValue196
  g3 := by kernel_rfl
  g4 := by kernel_rfl }

theorem valid_any (s : ByteArray) (w : World) (hs : s.size ≤ 9223372036854775807) (hT : Tabs w) :
    Calls Tryz.prog 101 #[.string s] w fun e w' => e = .returned (.bool (Lib.validD s.data.toList)) ∧ Below w.heap.size w w' :=
  Any.utf8_ValidString laysValid s w hs hT
end V
end Go.Proofs.YtdnocpngdepbgaaGreatDoor.K

namespace Go.Proofs.YtdnocpngdepbgaaGreatDoor.K
open Go.RowKit
set_option linter.unusedVariables false
set_option linter.unusedSimpArgs false

variable {p : Nat} {g : Option Nat} {M : List UInt8} {e : Int}
/-- []byte of a text, as a step of a Writer's world. -/
theorem conv_sep (s : ByteArray) {T : TypeId} (w : World) (hw : WS w T p g M e) : ∃ cap C fr, (convert 9 25 (.string s)).run Tryz.prog w = .ok (.slice (some ⟨w.heap.size, 0, none⟩) s.size cap) (w.drew.alloc (.cells C 5 fr)) ∧ Byt (w.drew.alloc (.cells C 5 fr)) (some ⟨w.heap.size, 0, none⟩) s.data.toList ∧ WS (w.drew.alloc (.cells C 5 fr)) T p g M e ∧ Below w.heap.size w (w.drew.alloc (.cells C 5 fr)) ∧ w.heap.size ≠ p ∧ some w.heap.size ≠ g ∧ w.heap.size < (w.drew.alloc (.cells C 5 fr)).heap.size := by
  obtain ⟨cap, C, fr, h1, h2⟩ := conv_str s w
  have hb : Below w.heap.size w (w.drew.alloc (.cells C 5 fr)) := (below_drewN (Below.refl w.heap.size w) 1).alloc (by show w.heap.size ≤ w.heap.size; omega) _
  have hl : s.data.toList.length = s.size := by simp
  refine ⟨cap, C, fr, h1, .inr ⟨w.heap.size, 0, rfl, fun j hj => ?_⟩, hw.below hb, hb, by have := hw.lt; omega, fun h => by have := hw.glt h.symm; omega, by show w.heap.size < (w.heap.push _).size; simp⟩
  have hg : (w.drew.alloc (.cells C 5 fr)).heap[w.heap.size]? = some (.cells C 5 fr) := by
    show (w.heap.push (.cells C 5 fr))[w.heap.size]? = _
    simp
  rw [Nat.zero_add, cell_of_row _ w.heap.size j C 5 fr hg]
  exact h2 j (by omega)
set_option maxRecDepth 100000 in
set_option maxHeartbeats 1000000 in
theorem wtext_any (s : ByteArray) (hs : s.size ≤ 140737488355328) (hv : Lib.validD s.data.toList = true) (w : World) (hw : WS w 28 p g M e) (hT : Tabs w) (hsum : M.length + 64 + s.size ≤ 140737488355328) :
    Calls Tryz.prog 28 #[.pointer (some ⟨p, 0, none⟩), .string s] w fun x w' => x = .returned (.tuple #[]) ∧ Wr w w' 28 p g (wA M e (vint s.size ++ s.data.toList)) e := by
  have HV := Hid.mk' (V.valid_any s w (by omega) hT)
  rw [hv] at HV
  have hl : s.data.toList.length = s.size := by simp
  have HW := Hid.mk' hw
  clear hw hT hv
  go_enter Tryz.func28, Tryz.ntmps28
  go_wp2_with fail
  refine HV.out.mono ?_
  rintro x w1 ⟨rfl, b1⟩
  obtain ⟨cap, C, fr, hcv, hby, ws, hbl, n1, n2, n3⟩ := conv_sep s w1 (HW.out.below b1)
  have H := Hid.mk' ((wraw_any s.data.toList (some ⟨w1.heap.size, 0, none⟩) s.size cap _ ws hl hby (fun ad h => by cases h; exact ⟨n1, n2⟩) (fun ad h => by cases h; exact n3) (by rw [hl]; exact hsum)).mono fun x w' h => And.intro h.1 (Wr.pre b1 (Wr.pre hbl h.2)))
  clear b1 hby ws hbl n1 n2 n3 HW HV hl
  go_wp2_with fail
  refine H.out.mono ?_
  rintro x w2 ⟨rfl, a2⟩
  have A2 := Hid.mk' a2
  clear a2 hcv
  go_wp2
  go_end0
  exact ⟨rfl, A2.out⟩
end Go.Proofs.YtdnocpngdepbgaaGreatDoor.K

namespace Go.Proofs.YtdnocpngdepbgaaGreatDoor.K
open Go.RowKit
set_option linter.unusedVariables false
set_option linter.unusedSimpArgs false

set_option maxRecDepth 100000 in
set_option maxHeartbeats 1000000 in
theorem ntext (s : ByteArray) (hs : s.size ≤ 140737488355328) (w : World) (hT : Tabs w) :
    Calls Tryz.prog 28 #[.pointer none, .string s] w fun x w' => x = .returned (.tuple #[]) ∧ Below w.heap.size w w' := by
  have HV := Hid.mk' (V.valid_any s w (by omega) hT)
  have HR := Hid.mk' (fun a cap (w : World) => nraw a s.size cap (by omega) w)
  clear hT
  by_cases hv : Lib.validD s.data.toList = true
  · rw [hv] at HV
    go_enter Tryz.func28, Tryz.ntmps28
    go_wp2_with fail
    refine HV.out.mono ?_
    rintro x w1 ⟨rfl, b1⟩
    obtain ⟨cap, C, fr, hcv, _⟩ := conv_str s w1
    have b2 : Below w1.heap.size w1 (w1.drew.alloc (.cells C 5 fr)) := (below_drewN (Below.refl w1.heap.size w1) 1).alloc (by show w1.heap.size ≤ w1.heap.size; omega) _
    have B2 := Hid.mk' (b1.trans (b2.mono b1.size))
    clear b1 b2 HV
    go_wp2_with fail
    refine (HR.out _ _ _).mono ?_
    rintro x w2 ⟨rfl, a2⟩
    have A2 := Hid.mk' (B2.out.trans (a2.mono B2.out.size))
    clear a2 hcv
    go_wp2
    go_end0
    exact ⟨rfl, A2.out⟩
  · have hv : Lib.validD s.data.toList = false := by simpa using hv
    rw [hv] at HV
    go_enter Tryz.func28, Tryz.ntmps28
    go_wp2_with fail
    refine HV.out.mono ?_
    rintro x w1 ⟨rfl, b1⟩
    go_wp2_with fail
    refine (nfail _ _).mono ?_
    rintro x w2 ⟨rfl, hw2⟩
    subst hw2
    go_wp2
    exact bodyPost_ret (results_none Tryz.results28 _ _ _) rfl ⟨rfl, b1⟩
end Go.Proofs.YtdnocpngdepbgaaGreatDoor.K

namespace Go.Proofs.YtdnocpngdepbgaaGreatDoor.K
open Go.RowKit
set_option linter.unusedVariables false
set_option linter.unusedSimpArgs false

/-! What must be whatever is asked. -/
variable {p : Nat} {g : Option Nat} {M : List UInt8} {e : Int}
set_option maxRecDepth 100000 in
theorem wlen_any (n : Nat) (w : World) (hw : WS w 28 p g M e) (hn : M.length = n) :
    Calls Tryz.prog 8 #[.pointer (some ⟨p, 0, none⟩)] w fun x w' => x = .returned (.int .i64 (n : Int)) ∧ w' = w := by
  subst hn
  obtain ⟨a, cv, c0, c1, _, _⟩ := hw.view
  clear hw
  generalize M.length = n at *
  go_enter Tryz.func8, Tryz.ntmps8
  go_wp2
  go_ret
  exact ⟨rfl, rfl⟩
theorem ws_new (w : World) (T : TypeId) : WS (w.alloc (.cells #[.slice none 0 0, .int .i64 0] T)) T w.heap.size none [] 0 := ⟨⟨.slice none 0 0, heap_alloc_new _ _, ownB_nil _ _, rfl⟩, by simp⟩
/-- A Writer of the call's own: what was there ahead stays. -/
theorem Wr.below {w w0 w1 : World} {T : TypeId} {p : Nat} {M : List UInt8} {e : Int} (h : Wr w0 w1 T p none M e) (h0 : Below w.heap.size w w0) (hp : w.heap.size ≤ p) : Below w.heap.size w w1 := by
  obtain ⟨g', _, f, _⟩ := h
  have hz := h0.size
  exact ⟨f.os.trans h0.os, f.tape.trans h0.tape, f.output.trans h0.output, Nat.le_trans h0.size f.size, fun k hk => (f.block k (by omega) (by omega) (by simp)).trans (h0.block k hk)⟩
def BB : List UInt8 := [172, 2, 1, 2, 97, 98, 63, 248, 0, 0, 0, 0, 0, 0]
theorem bb1 : wA [] 0 (vint 300) = [172, 2] := by rw [wA_0, vint_ge (by omega), vint_lt (by omega)]; rfl
theorem bb2 : wA [172, 2] 0 (vint (zig (-1))) = [172, 2, 1] := by rw [wA_0, show zig (-1) = 1 from rfl, vint_lt (by omega)]; rfl
theorem bb3 : wA [172, 2, 1] 0 (vint 2 ++ [97, 98]) = [172, 2, 1, 2, 97, 98] := by rw [wA_0, vint_lt (by omega)]; rfl
theorem bb4 : wA [172, 2, 1, 2, 97, 98] 0 (b8 4609434218613702656) = BB := by rw [wA_0]; decide +kernel
theorem rb1 : rUint BB 300 ⟨0, 0, 0⟩ = (300, ⟨2, 0, 0⟩) := by kernel_rfl
theorem rb2 : rInt BB ⟨2, 0, 0⟩ = (-1, ⟨3, 0, 0⟩) := by kernel_rfl
theorem rb3 : rText BB 2 ⟨3, 0, 0⟩ = ([97, 98], ⟨6, 0, 0⟩) := by kernel_rfl
theorem rb4 : rFloat BB ⟨6, 0, 0⟩ = (4609434218613702656, ⟨14, 0, 0⟩) := by kernel_rfl
theorem rb5 : doneE BB ⟨14, 0, 0⟩ = 0 ∧ doneP BB ⟨14, 0, 0⟩ = 0 := by decide +kernel
theorem vab : Lib.validD (⟨#[97, 98]⟩ : ByteArray).data.toList = true := by decide +kernel
theorem fin15 : finB 4609434218613702656 = true := by decide +kernel
theorem bb_cells : (#[.int .u8 172, .int .u8 2, .int .u8 1, .int .u8 2, .int .u8 97, .int .u8 98, .int .u8 63, .int .u8 248, .int .u8 0, .int .u8 0, .int .u8 0, .int .u8 0, .int .u8 0, .int .u8 0] : Array Value) = bs BB := rfl
set_option maxRecDepth 100000 in
set_option maxHeartbeats 4000000 in
theorem live_any (w : World) (hT : Tabs w) : Calls Tryz.prog 5 #[] w fun e w' => e = .returned (.bool true) ∧ Below w.heap.size w w' := by
  obtain ⟨w0, hw0⟩ : ∃ w0, w0 = w.alloc (.cells #[.slice none 0 0, .int .i64 0] 28) := ⟨_, rfl⟩
  have be0 : Hid (Below w.heap.size w w0) := by rw [hw0]; exact (Below.refl _ _).alloc (Nat.le_refl _) _
  have W0 : WS w0 28 w.heap.size none [] 0 := by rw [hw0]; exact ws_new w _
  have HT := Hid.mk' hT
  have H1 := Hid.mk' (wuint_any 300 (by decide) w0 W0 (by decide))
  rw [bb1] at H1
  clear hT W0
  go_enter Tryz.func5, Tryz.ntmps5
  go_wp2_with fail
  rw [← hw0]
  clear hw0
  refine H1.out.mono ?_
  rintro e w1 ⟨rfl, a1⟩
  have A1 := Hid.mk' a1
  have H2 : Hid (Calls Tryz.prog 27 #[.pointer (some ⟨w.heap.size, 0, none⟩), .int .i64 (-1)] w1 fun x w' => x = .returned (.tuple #[]) ∧ Wr w0 w' 28 w.heap.size none [172, 2, 1] 0) := by
    obtain ⟨g1, ws, fr, nw⟩ := a1
    have := wint_any (-1) (by decide) (by decide) w1 ws (by decide)
    rw [bb2] at this
    exact this.mono fun x w' h => ⟨h.1, Wr.step fr nw h.2⟩
  clear a1 H1
  go_wp2_with fail
  refine H2.out.mono ?_
  rintro e w2 ⟨rfl, a2⟩
  have H3 : Hid (Calls Tryz.prog 28 #[.pointer (some ⟨w.heap.size, 0, none⟩), .string ⟨#[97, 98]⟩] w2 fun x w' => x = .returned (.tuple #[]) ∧ Wr w0 w' 28 w.heap.size none [172, 2, 1, 2, 97, 98] 0) := by
    have hb2 := a2.below be0.out (Nat.le_refl _)
    obtain ⟨g1, ws, fr, nw⟩ := a2
    have := wtext_any ⟨#[97, 98]⟩ (by decide) vab w2 ws (HT.out.below hb2) (by decide)
    rw [show vint (⟨#[97, 98]⟩ : ByteArray).size ++ (⟨#[97, 98]⟩ : ByteArray).data.toList = vint 2 ++ [97, 98] from rfl, bb3] at this
    exact this.mono fun x w' h => ⟨h.1, Wr.step fr nw h.2⟩
  clear a2 H2 A1
  go_wp2_with fail
  refine H3.out.mono ?_
  rintro e w3 ⟨rfl, a3⟩
  have H4 : Hid (Calls Tryz.prog 29 #[.pointer (some ⟨w.heap.size, 0, none⟩), .float .f64 4609434218613702656] w3 fun x w' => x = .returned (.tuple #[]) ∧ Wr w0 w' 28 w.heap.size none BB 0) := by
    obtain ⟨g1, ws, fr, nw⟩ := a3
    have := wfloat_any 4609434218613702656 (by decide) fin15 w3 ws (by decide)
    rw [bb4] at this
    exact this.mono fun x w' h => ⟨h.1, Wr.step fr nw h.2⟩
  clear a3 H3
  go_wp2_with fail
  refine H4.out.mono ?_
  rintro e w4 ⟨rfl, a4⟩
  have b4 : Below w.heap.size w w4 := a4.below be0.out (Nat.le_refl _)
  obtain ⟨g4, ws4, fr4, nw4⟩ := a4
  have H5 := Hid.mk' (wdone0 w4 ws4 (by decide) (by decide))
  have WS4 := Hid.mk' ws4
  have B4 := Hid.mk' b4
  clear fr4 nw4 ws4 b4 H4
  go_wp2_with fail
  refine H5.out.mono ?_
  rintro e w5 ⟨bk, cv, rfl, own5, b5⟩
  have B5 : Hid (Below w.heap.size w w5) := B4.out.trans (b5.mono B4.out.size)
  have WS5 : Hid (WS w5 28 w.heap.size g4 BB 0) := WS4.out.below b5
  have Y5 : Hid (Byt w5 (some ⟨bk, 0, none⟩) BB) := by
    obtain ⟨a, cap, h1, h2, h3, h4⟩ := own5.open
    cases h1
    exact h3
  have LB : BB.length = 14 := rfl
  rw [LB]
  have bA : Below w5.heap.size w5 (w5.alloc (.cells (bs BB) 5)) := (Below.refl _ _).alloc (Nat.le_refl _) _
  have S6 : Hid (Calls Tryz.prog 12 #[.slice (some ⟨bk, 0, none⟩) 14 cv, .slice (some ⟨w5.heap.size, 0, none⟩) 14 14] (w5.alloc (.cells #[.int .u8 172, .int .u8 2, .int .u8 1, .int .u8 2, .int .u8 97, .int .u8 98, .int .u8 63, .int .u8 248, .int .u8 0, .int .u8 0, .int .u8 0, .int .u8 0, .int .u8 0, .int .u8 0] 5)) fun e w' => e = .returned (.bool true) ∧ Below w5.heap.size w5 w') :=
    (same_any (some ⟨bk, 0, none⟩) (some ⟨w5.heap.size, 0, none⟩) BB 14 cv 14 (w5.alloc (.cells (bs BB) 5)) rfl (byt_below Y5.out bA) (byt_lit w5 BB 5) (by decide)).mono fun e w' ⟨h1, m, h2⟩ => by
      have bB := below_drewN bA m
      rw [← h2] at bB
      exact ⟨h1, bB⟩
  clear own5 b5 LB bA H5
  go_wp2_with fail
  refine S6.out.mono ?_
  rintro e w6 ⟨rfl, b6⟩
  have B6 : Hid (Below w.heap.size w w6) := B5.out.trans (b6.mono B5.out.size)
  have Y6 : Hid (Byt w6 (some ⟨bk, 0, none⟩) BB) := byt_below Y5.out b6
  have L6 := Hid.mk' (wlen_any 14 w6 (WS5.out.below b6) rfl)
  clear b6 S6
  go_wp2_with fail
  refine L6.out.mono ?_
  rintro e w7 ⟨rfl, hw7⟩
  subst hw7
  have N7 := Hid.mk' (new_any bk 0 14 cv BB w7 rfl (by decide) Y6.out)
  clear L6
  go_wp2_with fail
  refine N7.out.mono ?_
  rintro e w8 ⟨r, a, c, rfl, rd8, hr8, b8⟩
  have B8 : Hid (Below w.heap.size w w8) := B6.out.trans (b8.mono B6.out.size)
  have hr : Hid (w.heap.size ≤ r) := by show _ ≤ _; have := B6.out.size; omega
  have U8 := Hid.mk' (uint_any 300 (by decide) w8 rd8)
  rw [rb1] at U8
  clear rd8 b8 N7
  go_wp2_with fail
  refine U8.out.mono ?_
  rintro e w9 ⟨rfl, rd9, fr9⟩
  have B9 : Hid (Below w.heap.size w w9) := B8.out.trans (fr9.below _ hr.out B8.out.size)
  have I9 := Hid.mk' (int_any w9 rd9)
  rw [rb2] at I9
  clear rd9 fr9 U8
  go_wp2_with fail
  refine I9.out.mono ?_
  rintro e w10 ⟨rfl, rd10, fr10⟩
  have B10 : Hid (Below w.heap.size w w10) := B9.out.trans (fr10.below _ hr.out B9.out.size)
  have T10 := Hid.mk' (text_any 2 (by decide) w10 rd10 (HT.out.below B10.out) (HT.out.ne hr.out))
  rw [rb3] at T10
  clear rd10 fr10 I9
  go_wp2_with fail
  refine T10.out.mono ?_
  rintro e w11 ⟨rfl, rd11, fr11⟩
  have B11 : Hid (Below w.heap.size w w11) := B10.out.trans (fr11.below _ hr.out B10.out.size)
  have F11 := Hid.mk' (float_any w11 rd11)
  rw [rb4] at F11
  clear rd11 fr11 T10
  go_wp2_with fail
  refine F11.out.mono ?_
  rintro e w12 ⟨rfl, rd12, fr12⟩
  have B12 : Hid (Below w.heap.size w w12) := B11.out.trans (fr12.below _ hr.out B11.out.size)
  have D12 := Hid.mk' (rdone_any w12 rd12)
  rw [rb5.1, rb5.2] at D12
  have R12 := Hid.mk' rd12
  clear rd12 fr12 F11
  go_wp2_with fail
  refine D12.out.mono ?_
  rintro e w13 ⟨rfl, m13, hm13⟩
  have B13 : Hid (Below w.heap.size w w13) := by rw [hm13]; exact below_drewN B12.out _
  have A13 : Hid (Calls Tryz.prog 35 #[.pointer (some ⟨r, 0, none⟩)] w13 fun e w' => e = .returned (.int .i64 14) ∧ w' = w13) := by rw [hm13]; exact rat_any _ (R12.out.drew m13)
  have z : (FloatKind.f64.format.order 4609434218613702656 4609434218613702656 == some .eq) = true := by decide +kernel
  clear hm13 D12
  go_wp2_with fail
  refine A13.out.mono ?_
  rintro e w14 ⟨rfl, hw14⟩
  subst hw14
  go_wp2
  go_ret
  exact ⟨rfl, B13.out⟩
end Go.Proofs.YtdnocpngdepbgaaGreatDoor.K

namespace Go.Proofs.YtdnocpngdepbgaaGreatDoor
open Go.RowKit
set_option linter.unusedVariables false
set_option linter.unusedSimpArgs false

/-- What an Op may be. -/
structure OpOk (W : World) (o : OpV) : Prop where
  hh : o.h.length = 32
  u : o.u < 18446744073709551616
  n0 : -9223372036854775808 ≤ o.n
  n1 : o.n < 9223372036854775808
  f : o.f < 18446744073709551616
  b0 : 0 ≤ o.b
  b1 : o.b ≤ 255
  s : o.s.size ≤ 140737488351232
  r : ∃ R : List UInt8, R.length = o.rn ∧ o.rn ≤ 140737488351232 ∧ K.Byt W o.ra R
  l : ∃ L : List (List UInt8), All32 L ∧ L.length = o.ln ∧ o.ln ≤ 4398046510976 ∧ Hl W o.la L
theorem wdd_below {w w' : World} {Post : World → World → Prop} (h : Wdd w Post w') (hp : ∀ wx w1, Post wx w1 → Below wx.heap.size wx w1) : Below w.heap.size w w' := by
  obtain ⟨wx, b, _, q⟩ := h
  exact b.trans ((hp _ _ q).mono b.size)
theorem wee_below {w w' : World} {Post : World → World → Prop} (h : Wee w Post w') (hp : ∀ wx w1, Post wx w1 → Below wx.heap.size wx w1) : Below w.heap.size w w' := by
  obtain ⟨wx, w1, b, hz, q, f⟩ := h
  have b2 := b.trans ((hp _ _ q).mono b.size)
  have hz2 := (hp _ _ q).size
  exact ⟨f.os.trans b2.os, f.tape.trans b2.tape, f.output.trans b2.output, Nat.le_trans b2.size f.size, fun k hk => (f.block k (by omega) (by omega)).trans (b2.block k hk)⟩
theorem rdd_below {w w' : World} {Post : World → World → Prop} (h : Rdd w Post w') (hp : ∀ wx w1, Post wx w1 → Below wx.heap.size wx w1) : Below w.heap.size w w' := by
  obtain ⟨wx, w1, b, hz, q, f⟩ := h
  have b2 := b.trans ((hp _ _ q).mono b.size)
  have := f.below (B := w.heap.size) (by omega)
  exact b2.trans this
theorem wnil (k : Int) (o : OpV) (W w : World) (ok : OpOk W o) (hb : Below W.heap.size W w) (hT : K.Tabs W) :
    Calls Tryz.prog 6 #[.pointer none, .agg (o.c k)] w fun x w' => x = .returned (.bool true) ∧ Below w.heap.size w w' := by
  have fin : ∀ {x : Ending} {w' : World} {Post : World → World → Prop}, (∀ wx w1, Post wx w1 → Below wx.heap.size wx w1) → (x = .returned (.bool true) ∧ Wdd w Post w') → (x = .returned (.bool true) ∧ Below w.heap.size w w') := fun hp h => ⟨h.1, wdd_below h.2 hp⟩
  by_cases hk : k < 0 ∨ 10 < k
  · exact (write_no none o ok.hh k hk w).mono fun x w' h => fin (fun wx w1 e => by subst e; exact Below.refl _ _) h
  · have : k = 0 ∨ k = 1 ∨ k = 2 ∨ k = 3 ∨ k = 4 ∨ k = 5 ∨ k = 6 ∨ k = 7 ∨ k = 8 ∨ k = 9 ∨ k = 10 := by omega
    rcases this with e | e | e | e | e | e | e | e | e | e | e <;> subst e
    · exact (write_0 none o ok.hh w (fun wx w1 => Below wx.heap.size wx w1) (fun wx _ _ => K.nbyte _ wx)).mono fun x w' h => fin (fun _ _ e => e) h
    · exact (write_1 none o ok.hh w (fun wx w1 => Below wx.heap.size wx w1) (fun wx _ _ => K.nbool _ wx)).mono fun x w' h => fin (fun _ _ e => e) h
    · exact (write_2 none o ok.hh w (fun wx w1 => Below wx.heap.size wx w1) (fun wx _ _ => K.nfix _ (by omega) (by omega) wx)).mono fun x w' h => fin (fun _ _ e => e) h
    · exact (write_3 none o ok.hh w (fun wx w1 => Below wx.heap.size wx w1) (fun wx _ _ => K.nuint _ ok.u wx)).mono fun x w' h => fin (fun _ _ e => e) h
    · exact (write_4 none o ok.hh w (fun wx w1 => Below wx.heap.size wx w1) (fun wx _ _ => K.nint _ ok.n0 ok.n1 wx)).mono fun x w' h => fin (fun _ _ e => e) h
    · exact (write_5 none o ok.hh w (fun wx w1 => Below wx.heap.size wx w1) (fun wx _ _ => K.nfloat _ ok.f wx)).mono fun x w' h => fin (fun _ _ e => e) h
    · exact (write_6 none o ok.hh w (fun wx w1 => Below wx.heap.size wx w1) (fun wx bx _ => K.ntext _ (by have := ok.s; omega) wx (hT.below (hb.trans (bx.mono hb.size))))).mono fun x w' h => fin (fun _ _ e => e) h
    · obtain ⟨R, h1, h2, h3⟩ := ok.r
      refine (write_7 none o ok.hh R h1 h2 w (K.byt_below h3 hb) (fun wx w1 => Below wx.heap.size wx w1) (fun wx bx _ _ => ?_)).mono fun x w' h => ⟨h.1, wee_below h.2 (fun _ _ e => e)⟩
      exact (K.nraw _ _ _ (by omega) wx).mono fun x w1 h => ⟨h.1, h.2, Keeps.of_below h.2, K.byt_below (K.byt_below h3 (hb.trans (bx.mono hb.size))) h.2⟩
    · exact (write_8 none o ok.hh w (fun wx w1 => Below wx.heap.size wx w1) (fun wx _ _ => nhash _ ok.hh wx)).mono fun x w' h => fin (fun _ _ e => e) h
    · obtain ⟨L, h32, h1, h2, h3⟩ := ok.l
      refine (write_9 none o ok.hh L h32 h1 h2 w (h3.below h32 hb) (fun wx w1 => Below wx.heap.size wx w1) (fun wx bx _ hs => ?_)).mono fun x w' h => ⟨h.1, wee_below h.2 (fun _ _ e => e)⟩
      have := nhashes ⟨w.heap.size + 1, 0, none⟩ L (o.ln + 9) wx h32 (by omega) (.inr ⟨_, _, rfl, hs⟩)
      rw [h1] at this
      exact this.mono fun x w1 h => ⟨h.1, h.2, Keeps.of_below h.2, (h3.below h32 (hb.trans (bx.mono hb.size))).below h32 h.2⟩
    · exact (write_10 none o ok.hh w (fun wx w1 => Below wx.heap.size wx w1) (fun wx _ _ => (K.nfail _ wx).mono fun x w1 h => ⟨h.1, by rw [h.2]; exact Below.refl _ _⟩)).mono fun x w' h => fin (fun _ _ e => e) h
theorem rnil (k u m e : Int) (w : World) :
    Calls Tryz.prog 21 #[.pointer none, .agg #[.int .i64 k, .int .u64 u, .int .i64 m, .int .i64 e]] w fun x w' => x = .returned (.agg gz) ∧ Below w.heap.size w w' := by
  have fin : ∀ {x : Ending} {w' : World}, (x = .returned (.agg gz) ∧ Rdd w (fun wx w1 => w1 = wx) w') → (x = .returned (.agg gz) ∧ Below w.heap.size w w') := fun h => ⟨h.1, rdd_below h.2 (fun wx w1 e => by subst e; exact Below.refl _ _)⟩
  have kp : ∀ {x : Ending} {v : Value} {wx w1 : World}, (x = .returned v ∧ w1 = wx) → (x = .returned v ∧ w1 = wx ∧ Keeps w.heap.size wx w1) := fun h => ⟨h.1, h.2, by rw [h.2]; exact Keeps.refl _ _⟩
  by_cases hk : k < 0 ∨ 10 < k
  · exact (read_no none k u m e hk w).mono fun x w' h => fin h
  · have : k = 0 ∨ k = 1 ∨ k = 2 ∨ k = 3 ∨ k = 4 ∨ k = 5 ∨ k = 6 ∨ k = 7 ∨ k = 8 ∨ k = 9 ∨ k = 10 := by omega
    rcases this with e | e | e | e | e | e | e | e | e | e | e <;> subst e
    · exact (read_0 none u m e 0 w (fun wx w1 => w1 = wx) (fun wx _ _ => (nrbyte wx).mono fun x w1 h => kp h)).mono fun x w' h => fin h
    · exact (read_1 none u m e false w (fun wx w1 => w1 = wx) (fun wx _ _ => (nrbool wx).mono fun x w1 h => kp h)).mono fun x w' h => fin h
    · exact (read_2 none u m e 0 (by decide) (by decide) w (fun wx w1 => w1 = wx) (fun wx _ _ => (nrfix wx).mono fun x w1 h => kp h)).mono fun x w' h => fin h
    · exact (read_3 none u m e 0 w (fun wx w1 => w1 = wx) (fun wx _ _ => (nruint _ wx).mono fun x w1 h => kp h)).mono fun x w' h => fin h
    · exact (read_4 none u m e 0 w (fun wx w1 => w1 = wx) (fun wx _ _ => (nrint wx).mono fun x w1 h => kp h)).mono fun x w' h => fin h
    · exact (read_5 none u m e 0 w (fun wx w1 => w1 = wx) (fun wx _ _ => (nrfloat wx).mono fun x w1 h => kp h)).mono fun x w' h => fin h
    · exact (read_6 none u m e ⟨#[]⟩ w (fun wx w1 => w1 = wx) (fun wx _ _ => (nrtext _ wx).mono fun x w1 h => kp h)).mono fun x w' h => fin h
    · refine (read_7 none u m e w (fun v wx w1 => v = .slice none 0 0 ∧ w1 = wx) (fun wx _ _ => (nrraw _ wx).mono fun x w1 h => ⟨none, 0, 0, h.1, ⟨rfl, h.2⟩, by rw [h.2]; exact Keeps.refl _ _⟩)).mono ?_
      rintro x w' ⟨a, n, c, rfl, wx, w1, h1, h2, ⟨h3, h4⟩, h5⟩
      rw [h3]
      exact fin ⟨rfl, wx, w1, h1, h2, h4, h5⟩
    · refine (read_8 none u m e z32 z32_len w (fun wx w1 => Below wx.heap.size wx w1) (fun wx _ _ => (nrhash wx).mono fun x w1 h => ⟨h.1, h.2, Keeps.of_below h.2⟩)).mono ?_
      rintro x w' ⟨rfl, h⟩
      exact ⟨rfl, rdd_below h (fun _ _ e => e)⟩
    · refine (read_9 none u m e w (fun v wx w1 => v = .slice none 0 0 ∧ w1 = wx) (fun wx _ _ => (nrhashes _ wx).mono fun x w1 h => ⟨none, 0, 0, h.1, ⟨rfl, h.2⟩, by rw [h.2]; exact Keeps.refl _ _⟩)).mono ?_
      rintro x w' ⟨a, n, c, rfl, wx, w1, h1, h2, ⟨h3, h4⟩, h5⟩
      rw [h3]
      exact fin ⟨rfl, wx, w1, h1, h2, h4, h5⟩
    · exact (read_10 none u m e w (fun wx w1 => w1 = wx) (fun wx _ _ => (nrfail _ _ wx).mono fun x w1 h => kp h)).mono fun x w' h => fin h
theorem samegz (w : World) : Calls Tryz.prog 22 #[.agg gz, .agg gz] w fun e w' => e = .returned (.bool true) ∧ Below w.heap.size w w' :=
  same_true 0 0 0 false 0 ⟨#[]⟩ none none 0 0 0 [] z32 none none 0 0 0 [] w rfl (by decide) (.inl rfl) (.inl rfl) z32_len (fun _ h => by cases h) rfl (by decide) (.inl rfl) (.inl rfl) (fun wx => sameV0 wx)
end Go.Proofs.YtdnocpngdepbgaaGreatDoor

namespace Go.Proofs.YtdnocpngdepbgaaGreatDoor
open Go.RowKit
set_option linter.unusedVariables false
set_option linter.unusedSimpArgs false

/-- Ops that lie in memory. -/
def Opl (W : World) (a : Option Addr) (l : List (Int × OpV)) : Prop := l = [] ∨ ∃ b off, a = some ⟨b, off, none⟩ ∧ ∀ (i : Nat) (k : Int) (o : OpV), l[i]? = some (k, o) → W.rangeAt b (off + 42 * i) (o.c k).toList ∧ OpOk W o
theorem Opl.at {W : World} {a : Option Addr} {l : List (Int × OpV)} (h : Opl W a l) {i : Nat} (hi : i < l.length) : ∃ b off k o, a = some ⟨b, off, none⟩ ∧ l[i]? = some (k, o) ∧ W.rangeAt b (off + 42 * i) (o.c k).toList ∧ OpOk W o ∧ b < W.heap.size := by
  rcases h with rfl | ⟨b, off, rfl, h⟩
  · simp at hi
  · obtain ⟨⟨k, o⟩, e⟩ : ∃ x, l[i]? = some x := ⟨_, List.getElem?_eq_getElem hi⟩
    obtain ⟨h1, h2⟩ := h i k o e
    refine ⟨b, off, k, o, rfl, e, h1, h2, rangeAt_lt h1 ?_⟩
    show 0 < (oL _ _ _ _ _ _ _ _ _ _ _).length
    rw [oL_len h2.hh]
    omega
/-- Reads that lie in memory. -/
def Rdl (W : World) (a : Option Addr) (l : List (Int × Int × Int × Int)) : Prop := l = [] ∨ ∃ b off, a = some ⟨b, off, none⟩ ∧ ∀ (i : Nat) (k u m e : Int), l[i]? = some (k, u, m, e) → W.rangeAt b (off + 4 * i) [.int .i64 k, .int .u64 u, .int .i64 m, .int .i64 e]
theorem Rdl.at {W : World} {a : Option Addr} {l : List (Int × Int × Int × Int)} (h : Rdl W a l) {i : Nat} (hi : i < l.length) : ∃ b off k u m e, a = some ⟨b, off, none⟩ ∧ l[i]? = some (k, u, m, e) ∧ W.rangeAt b (off + 4 * i) [.int .i64 k, .int .u64 u, .int .i64 m, .int .i64 e] ∧ b < W.heap.size := by
  rcases h with rfl | ⟨b, off, rfl, h⟩
  · simp at hi
  · obtain ⟨⟨k, u, m, e⟩, he⟩ : ∃ x, l[i]? = some x := ⟨_, List.getElem?_eq_getElem hi⟩
    have h1 := h i k u m e he
    exact ⟨b, off, k, u, m, e, rfl, he, h1, rangeAt_lt h1 (by simp)⟩
theorem sizeOp : (Tryz.prog.info? 39).map (·.size) = some 42 := by kernel_rfl
theorem sizeRead : (Tryz.prog.info? 79).map (·.size) = some 4 := by kernel_rfl
theorem info_some {t : TypeId} {n : Nat} (h : (Tryz.prog.info? t).map (·.size) = some n) : ∃ i, Tryz.prog.info? t = some i ∧ i.size = n := by
  cases hq : Tryz.prog.info? t with
  | none => rw [hq] at h; simp at h
  | some i => rw [hq] at h; simp at h; exact ⟨i, rfl, h⟩
theorem indexOp (b off n cap k : Nat) (w : World) (hk : k < n) :
    (Instr.indexAt 22 (.slice (some ⟨b, off, none⟩) n cap) (.int .i64 (k : Int))).run Tryz.prog w = .ok (.pointer (some ⟨b, off + 42 * k, none⟩)) w := by
  obtain ⟨i, hi, hs⟩ := info_some sizeOp
  have hu := Tryz.underlying22
  have he : Tryz.prog.elem 22 = 39 := by kernel_rfl
  rw [run_indexAt_slice (P := Tryz.prog) _ _ _ _ _ _ _ (by rw [he]; exact hu)]
  simp [hk, he, hi, hs, Go.sizeOf, typeInfo, Addr.add_mid]
theorem indexRead (b off n cap k : Nat) (w : World) (hk : k < n) :
    (Instr.indexAt 69 (.slice (some ⟨b, off, none⟩) n cap) (.int .i64 (k : Int))).run Tryz.prog w = .ok (.pointer (some ⟨b, off + 4 * k, none⟩)) w := by
  obtain ⟨i, hi, hs⟩ := info_some sizeRead
  have hu := Tryz.underlying69
  have he : Tryz.prog.elem 69 = 79 := by kernel_rfl
  rw [run_indexAt_slice (P := Tryz.prog) _ _ _ _ _ _ _ (by rw [he]; exact hu)]
  simp [hk, he, hi, hs, Go.sizeOf, typeInfo, Addr.add_mid]
theorem oc_len (o : OpV) (k : Int) (hh : o.h.length = 32) : (o.c k).toList.length = 42 := by
  show (oL _ _ _ _ _ _ _ _ _ _ _).length = 42
  exact oL_len hh
theorem hbG : Tryz.prog.built 76 [] = some gz := by kernel_rfl

end Go.Proofs.YtdnocpngdepbgaaGreatDoor

namespace Go.Proofs.YtdnocpngdepbgaaGreatDoor.K
open Go.RowKit
set_option linter.unusedVariables false
set_option linter.unusedSimpArgs false

set_option maxRecDepth 100000 in
set_option maxHeartbeats 1000000 in
theorem pnew_x (b off n cap : Nat) (l : List UInt8) (w : World) (hl : l.length = n) (hn : n ≤ 140737488351232) (hb : Byt w (some ⟨b, off, none⟩) l) :
    Calls Tryz.prog 18 #[.slice (some ⟨b, off, none⟩) n cap] w fun e w' => ∃ r a c, e = .returned (.pointer (some ⟨r, 0, none⟩)) ∧ RD w' 108 r a c l ⟨0, 0, 0⟩ ∧ w.heap.size ≤ r ∧ r < w'.heap.size ∧ (∀ ad, a = some ad → w.heap.size ≤ ad.block ∧ ad.block < w'.heap.size) ∧ Below w.heap.size w w' := by
  have HC : Hid (Calls Tryz.prog 54 #[.slice (some ⟨b, off, none⟩) n cap] w fun e w' => ∃ v, e = .returned v ∧ OwnB w' w.heap.size v l ∧ Below w.heap.size w w') := clone_any b off n cap l w hl (by omega) hb
  clear hb
  go_enter Tryz.func18, Tryz.ntmps18
  go_wp2_with fail
  refine HC.out.mono ?_
  rintro e w1 ⟨v, rfl, own, b1⟩
  obtain ⟨a, c, rfl, rd, hp⟩ := rd_of_own (w := w1) (T := 108) own (by omega)
  have z1 := b1.size
  obtain ⟨W, hW⟩ : ∃ W, W = w1.alloc (.cells #[.slice a l.length c, .int .i64 0, .int .i64 0, .int .i64 0] 108) := ⟨_, rfl⟩
  rw [← hW] at rd
  have HRD := Hid.mk' rd
  have ZW : Hid (w1.heap.size < W.heap.size) := by show _ < _; rw [hW]; simp
  have B2 : Hid (Below w.heap.size w W) := by show Below _ _ _; rw [hW]; exact b1.alloc (by omega) _
  have HP : Hid (∀ ad, a = some ad → w.heap.size ≤ ad.block ∧ ad.block < W.heap.size) := fun ad e => ⟨(hp ad e).1, by have := (hp ad e).2; have := ZW.out; omega⟩
  rw [hl] at hW
  have HW := Hid.mk' hW
  clear own rd hp b1 hW
  go_wp2
  rw [← HW.out]
  go_ret
  exact ⟨_, a, c, rfl, HRD.out, z1, ZW.out, HP.out, B2.out⟩
set_option maxRecDepth 100000 in
set_option maxHeartbeats 1000000 in
theorem qnew_x (a : Option Addr) (l : List UInt8) (n cap : Nat) (w : World) (hl : l.length = n) (hb : Byt w a l) (hn : n ≤ 140737488351232) :
    Calls Tryz.prog 19 #[.slice a n cap] w fun e w' => ∃ r a c, e = .returned (.pointer (some ⟨r, 0, none⟩)) ∧ RD w' 110 r a c l ⟨0, 0, 0⟩ ∧ w.heap.size ≤ r ∧ r < w'.heap.size ∧ (∀ ad, a = some ad → w.heap.size ≤ ad.block ∧ ad.block < w'.heap.size) ∧ Below w.heap.size w w' := by
  have O0 := Hid.mk' (own0 w)
  have B0 := Hid.mk' (byt_below hb (below0 w))
  have S0 : Hid (([] : List UInt8).length + l.length ≤ 140737488355328) := by show _ ≤ _; simp; omega
  have Z0 := Hid.mk' (below0 w).size
  clear hb
  go_enter Tryz.func19, Tryz.ntmps19
  go_wp2_with (first | (at_builtin; refine wpList_app rfl (.tmp 3) (.tmp 4) rfl w.heap.size (.slice (some ⟨w.heap.size, 0, none⟩) 0 0) [] rfl O0.out a n cap l rfl hl B0.out S0.out Z0.out ?_) | fail)
  intro v w1 own1 gr1
  have own1' : OwnB w1 w.heap.size v l := by simpa using own1
  have b1 : Below w.heap.size w w1 := (below0 w).grown gr1 Z0.out (fun k hk => (World.ownsRow.lt O0.out k hk).1)
  obtain ⟨a2, c2, rfl, rd, hp⟩ := rd_of_own (w := w1) (T := 110) own1' (by omega)
  have z1 := b1.size
  obtain ⟨W, hW⟩ : ∃ W, W = w1.alloc (.cells #[.slice a2 l.length c2, .int .i64 0, .int .i64 0, .int .i64 0] 110) := ⟨_, rfl⟩
  rw [← hW] at rd
  have HRD := Hid.mk' rd
  have ZW : Hid (w1.heap.size < W.heap.size) := by show _ < _; rw [hW]; simp
  have B2 : Hid (Below w.heap.size w W) := by show Below _ _ _; rw [hW]; exact b1.alloc (by omega) _
  have HP : Hid (∀ ad, a2 = some ad → w.heap.size ≤ ad.block ∧ ad.block < W.heap.size) := fun ad e => ⟨(hp ad e).1, by have := (hp ad e).2; have := ZW.out; omega⟩
  rw [hl] at hW
  have HW := Hid.mk' hW
  clear own1 own1' rd hp b1 gr1 O0 B0 S0 Z0 hW
  go_wp2
  rw [← HW.out]
  go_ret
  exact ⟨_, a2, c2, rfl, HRD.out, z1, ZW.out, HP.out, B2.out⟩
end Go.Proofs.YtdnocpngdepbgaaGreatDoor.K

namespace Go.Proofs.YtdnocpngdepbgaaGreatDoor
open Go.ChangeShapes Go.WideShapes Go.ChangeAt Go.RowKit
set_option linter.unusedVariables false
set_option linter.unusedSimpArgs false

theorem own : ownKnob Tryz.prog.godebug = none := by kernel_rfl
theorem laidOut : laidOutB Tryz.prog = true := by kernel_rfl
theorem bytesH : Tryz.prog.bytesOf 36 = 32 := by kernel_rfl
section
variable {H : Type} {enc : TypeId × Value → H} {w : World} {base : Nat} {spare : Nat → Bool} {held : Bool}
/-- The cells of a hash that can be read. -/
theorem hash_cells {fuel : Nat} {cs : List Value} {x : DataW H × List MemPlace} (h : DataW.trod enc Tryz.prog w base spare held fuel 36 cs = some x) : ∃ l : List UInt8, l.length = 32 ∧ cs = hcs l := by
  obtain ⟨xs, m, _, _, hlen, hxs, hall⟩ := DataW.trod_array Tryz.underlying36 h
  rw [cellsH] at hlen
  have hce : Tryz.prog.cellsOf 5 = 1 := by kernel_rfl
  have key : ∀ i (hi : i < cs.length), ∃ z : Int, cs[i] = .int .u8 z ∧ 0 ≤ z ∧ z ≤ 255 := by
    intro i hi
    have h1 := hall i (by omega)
    rw [hce, Nat.mul_one, List.getElem?_eq_getElem (by omega)] at h1
    obtain ⟨z, e0, _, w0⟩ := DataW.trod_int Tryz.underlying5 h1
    have hb := bounds_u8 w0
    refine ⟨z, ?_, hb.1, hb.2⟩
    rw [List.drop_eq_getElem_cons hi, List.take_succ_cons, List.take_zero] at e0
    exact (List.cons.inj e0).1
  refine ⟨cs.map (fun v => UInt8.ofNat (intOf v).toNat), by simpa using hlen, ?_⟩
  apply List.ext_getElem
  · simp [hcs, bs]
  · intro i h1 h2
    obtain ⟨z, hz, z0, z1⟩ := key i h1
    simp only [hcs, bs, List.map_map, List.getElem_map, Function.comp_apply]
    rw [hz]
    simp only [intOf, Value.int.injEq, true_and]
    rw [UInt8.toNat_ofNat']
    omega
end
/-- What a slice of hashes that came in gives a walk. -/
theorem view_hashes {H : Type} {enc : TypeId × Value → H} {W : World} {a : Option Addr} {len cap : Nat} {d : DataW H} {p : List MemPlace}
    (h : DataW.Trod enc Tryz.prog W 0 (fun _ => true) true 37 (.slice a len cap) d p) :
    ∃ L : List (List UInt8), L.length = len ∧ All32 L ∧ Hl W a L ∧ (a = none → len = 0 ∧ cap = 0) ∧ (d = .nil ∧ len = 0 ∨ ∃ el sp, d = .slice el sp ∧ el.length = len) := by
  obtain ⟨fuel, hf⟩ := h
  rcases DataW.trod_slice Tryz.underlying37 hf with ⟨hcs', hx⟩ | ⟨ad, l, c, elems, rest, n, _, hcs', hx, _, hl, hm, hel, hcell, _, _⟩
  · simp [Value.cells] at hcs'
    obtain ⟨rfl, rfl, rfl⟩ := hcs'
    simp only [Prod.mk.injEq] at hx
    exact ⟨[], rfl, fun v hv => (by cases hv), .inl rfl, fun _ => ⟨rfl, rfl⟩, .inl ⟨hx.1, rfl⟩⟩
  · simp [Value.cells] at hcs'
    obtain ⟨rfl, rfl, rfl⟩ := hcs'
    simp only [Prod.mk.injEq] at hx
    obtain ⟨b, off, spot⟩ := ad
    have raw : ∀ i, i < len → ∃ v : List UInt8, v.length = 32 ∧ ∀ j u, (hcs v)[j]? = some u → W.cell? (((⟨b, off, spot⟩ : Addr).add (i * 32)).add j) = some u := fun i hi => by
      have hi2 := hcell i hi
      rw [List.getElem?_eq_getElem (by omega), cellsH, Option.bind_eq_some_iff] at hi2
      obtain ⟨cs, hc1, hc2⟩ := hi2
      obtain ⟨v, hv, rfl⟩ := hash_cells hc2
      obtain ⟨_, _, hc3⟩ := World.cells?_some hc1
      refine ⟨v, hv, fun j u hu => ?_⟩
      have hj := (List.getElem?_eq_some_iff.1 hu).1
      rw [hcs_len, hv] at hj
      rw [hc3 j hj]
      exact hu
    have hspot : 0 < len → spot = none := fun h0 => by
      obtain ⟨v, hv, hc⟩ := raw 0 h0
      have q := hc 0 _ (List.getElem?_eq_getElem (by rw [hcs_len, hv]; omega))
      have := World.cell?_spot q
      simpa [Addr.add] using this
    let F : Nat → List UInt8 := fun i => if h : i < len then Classical.choose (raw i h) else []
    have hF : ∀ i (h : i < len), F i = Classical.choose (raw i h) := fun i h => dif_pos h
    refine ⟨(List.range len).map F, by simp, fun v hv => ?_, ?_, fun e => (by cases e), .inr ⟨_, _, hx.1, by simp [hel]⟩⟩
    · rw [List.mem_map] at hv
      obtain ⟨i, hi, rfl⟩ := hv
      rw [List.mem_range] at hi
      rw [hF i hi]
      exact (Classical.choose_spec (raw i hi)).1
    · by_cases h0 : 0 < len
      · have hs := hspot h0
        subst hs
        refine .inr ⟨b, off, rfl, fun i v hv => ?_⟩
        have hi : i < len := by
          have := (List.getElem?_eq_some_iff.1 hv).1
          simpa using this
        rw [List.getElem?_map, List.getElem?_range hi] at hv
        simp only [Option.map_some, Option.some.injEq] at hv
        subst hv
        rw [hF i hi]
        intro j u hu
        have := (Classical.choose_spec (raw i hi)).2 j u hu
        rw [Addr.add_mid, Addr.add_mid] at this
        rwa [show off + 32 * i + j = off + i * 32 + j by omega]
      · obtain rfl : len = 0 := by omega
        exact .inl rfl
theorem reachH {H : Type} {ts : List TypeId} {ds : List (DataW H)} (hsz : (DataW.weightsEach Tryz.prog ts ds).all (· ≤ reachBytes) = true) (j : Nat) (ht : ts[j]? = some 37) {d : DataW H} (hd : ds[j]? = some d) {len : Nat}
    (h : d = .nil ∧ len = 0 ∨ ∃ el sp, d = .slice el sp ∧ el.length = len) : len ≤ 4398046511104 := by
  rcases h with ⟨_, rfl⟩ | ⟨el, sp, rfl, rfl⟩
  · omega
  · have := sized_slice hsz (j := j) (t := 37) (e := 36) ht hd Tryz.underlying37
    rw [bytesH] at this
    simp only [reachBytes] at this
    omega
theorem trodAll_cons_mk' {H : Type} {enc : TypeId × Value → H} {P : Program} {W : World} {base : Nat} {sp : Nat → Bool} {held : Bool} {t : TypeId} {ts : List TypeId} {v : Value} {vs : List Value} {d : DataW H} {ds : List (DataW H)} {p q : List MemPlace}
    (h : DataW.Trod enc P W base sp held t v d p) (r : DataW.TrodAll enc P W base sp held ts vs ds q) : DataW.TrodAll enc P W base sp held (t :: ts) (v :: vs) (d :: ds) (p ++ q) := trodAll_cons_mk h r
end Go.Proofs.YtdnocpngdepbgaaGreatDoor

namespace Go.Proofs.YtdnocpngdepbgaaGreatDoor
open Go.ChangeShapes Go.WideShapes Go.ChangeAt Go.RowKit
set_option linter.unusedVariables false
set_option linter.unusedSimpArgs false

theorem bytes5 : Tryz.prog.bytesOf 5 = 1 := by kernel_rfl
/-- What a slice of bytes that came in gives a walk. -/
theorem view_bytes {H : Type} {enc : TypeId × Value → H} {W : World} {a : Option Addr} {len cap : Nat} {d : DataW H} {p : List MemPlace}
    (h : DataW.Trod enc Tryz.prog W 0 (fun _ => true) true 25 (.slice a len cap) d p) :
    ∃ L : List UInt8, L.length = len ∧ len ≤ cap ∧ K.Byt W a L ∧ (d = .nil ∧ len = 0 ∨ ∃ el sp, d = .slice el sp ∧ el.length = len) := by
  obtain ⟨fuel, hf⟩ := h
  rcases open_ints Tryz.underlying25 Tryz.underlying5 (by kernel_rfl) hf with ⟨hcs, hx⟩ | ⟨x, l, c, zs, hcs, _, hl, hm, hz, hx, hcell, hwz⟩
  · simp [Value.cells] at hcs
    obtain ⟨rfl, rfl, rfl⟩ := hcs
    simp only [Prod.mk.injEq] at hx
    exact ⟨[], rfl, Nat.le_refl _, .inl rfl, .inl ⟨hx.1, rfl⟩⟩
  · simp [Value.cells] at hcs
    obtain ⟨rfl, rfl, rfl⟩ := hcs
    have hz' : zs.length = cap := by simpa using hz
    simp only [Prod.mk.injEq] at hx
    have hlen0 : ((zs.take len).map (fun z => UInt8.ofNat z.toNat)).length = len := by simp; omega
    refine ⟨(zs.take len).map (fun z => UInt8.ofNat z.toNat), hlen0, hl, ?_, .inr ⟨_, _, hx.1, by simp [lits]; omega⟩⟩
    by_cases h0 : 0 < len
    · obtain ⟨b, off, spot⟩ := x
      have hc := hcell 0 (by omega)
      have hspot : spot = none := by simpa [Addr.add] using World.cell?_spot hc
      subst hspot
      refine .inr ⟨b, off, rfl, fun j hj => ?_⟩
      rw [hlen0] at hj
      have h1 := hcell j (by omega)
      have e : (⟨b, off, none⟩ : Addr).add j = ⟨b, off + j, none⟩ := by unfold Addr.add; split <;> simp_all
      rw [e] at h1
      rw [h1]
      have hb := bounds_u8 (hwz (zs.getD j 0) (by rw [List.getD_eq_getElem?_getD, List.getElem?_eq_getElem (by omega)]; exact List.getElem_mem _))
      have hlen : j < zs.length := by omega
      simp only [K.at8, List.getD_eq_getElem?_getD, List.getElem?_map, List.getElem?_take, if_pos hj, List.getElem?_eq_getElem hlen, Option.map_some, Option.getD_some] at hb ⊢
      rw [UInt8.toNat_ofNat']
      simp only [Option.some.injEq, Value.int.injEq, true_and]
      omega
    · exact .inl (List.eq_nil_of_length_eq_zero (by omega))
theorem trod_float {H : Type} {enc : TypeId × Value → H} {P : Program} {w : World} {base : Nat} {spare : Nat → Bool} {held : Bool} {fuel : Nat} {t : TypeId} {cs : List Value} {x : DataW H × List MemPlace} {k : FloatKind} (ht : P.underlying t = some (.float k)) (h : DataW.trod enc P w base spare held fuel t cs = some x) :
    ∃ b, cs = [.float k b] ∧ (Lit.float k b).wf = true := by
  cases fuel with
  | zero => simp [DataW.trod] at h
  | succ n =>
    unfold DataW.trod at h
    rw [ht] at h
    split at h <;> simp_all
/-- The cell of a slice that came in. -/
theorem trod_sl {H : Type} {enc : TypeId × Value → H} {W : World} {fuel : Nat} {t e : TypeId} {c : Value} {x : DataW H × List MemPlace} (ht : Tryz.prog.underlying t = some (.slice e)) (h : DataW.trod enc Tryz.prog W 0 (fun _ => true) true fuel t [c] = some x) :
    ∃ a n cap, c = .slice a n cap ∧ DataW.Trod enc Tryz.prog W 0 (fun _ => true) true t (.slice a n cap) x.1 x.2 := by
  rcases DataW.trod_slice ht h with ⟨hcs, hx⟩ | ⟨ad, l, c', elems, rest, n, _, hcs, _⟩
  · simp at hcs
    subst hcs
    exact ⟨_, _, _, rfl, fuel, h⟩
  · simp at hcs
    subst hcs
    exact ⟨_, _, _, rfl, fuel, h⟩
theorem w_all {H : Type} {P : Program} {e : TypeId} : ∀ {l : List (DataW H)} {i : Nat} {d : DataW H}, l[i]? = some d → ∀ n ∈ d.weights P e, n ∈ DataW.weightsAll P e l
  | x :: r, 0, d, h, n, hn => by
    simp only [List.getElem?_cons_zero, Option.some.injEq] at h
    subst h
    simp only [DataW.weightsAll, List.mem_append]
    exact .inl hn
  | x :: r, i + 1, d, h, n, hn => by
    simp only [List.getElem?_cons_succ] at h
    simp only [DataW.weightsAll, List.mem_append]
    exact .inr (w_all h n hn)
  | [], i, d, h, n, hn => by simp at h
theorem cellsOp : Tryz.prog.cellsOf 39 = 42 := by kernel_rfl
theorem cellsRead : Tryz.prog.cellsOf 79 = 4 := by kernel_rfl
theorem list11 {α : Type} {l : List α} (h : l.length = 11) : ∃ c0 c1 c2 c3 c4 c5 c6 c7 c8 c9 c10, l = [c0, c1, c2, c3, c4, c5, c6, c7, c8, c9, c10] := by
  match l, h with
  | [c0, c1, c2, c3, c4, c5, c6, c7, c8, c9, c10], _ => exact ⟨c0, c1, c2, c3, c4, c5, c6, c7, c8, c9, c10, rfl⟩
theorem list8 {α : Type} {l : List α} {m : Nat} (h : l.length = m + 8) : ∃ c0 c1 c2 c3 c4 c5 c6 c7 t, l = c0 :: c1 :: c2 :: c3 :: c4 :: c5 :: c6 :: c7 :: t ∧ t.length = m := by
  match l, h with
  | c0 :: c1 :: c2 :: c3 :: c4 :: c5 :: c6 :: c7 :: t, h => exact ⟨c0, c1, c2, c3, c4, c5, c6, c7, t, rfl, by simpa using h⟩
theorem list2 {α : Type} {l : List α} (h : l.length = 2) : ∃ c0 c1, l = [c0, c1] := by
  match l, h with
  | [c0, c1], _ => exact ⟨c0, c1, rfl⟩
theorem list4 {α : Type} {l : List α} (h : l.length = 4) : ∃ c0 c1 c2 c3, l = [c0, c1, c2, c3] := by
  match l, h with
  | [c0, c1, c2, c3], _ => exact ⟨c0, c1, c2, c3, rfl⟩
def opTypes : List TypeId := [3, 5, 4, 33, 2, 34, 9, 25, 36, 37, 26]
theorem i64_wf {z : Int} (h : (Lit.int .i64 z).wf = true) : -9223372036854775808 ≤ z ∧ z < 9223372036854775808 := by
  simp [Lit.wf, IntKind.min, IntKind.max, IntKind.signed, IntKind.bits] at h
  omega
theorem u64_wf {z : Int} (h : (Lit.int .u64 z).wf = true) : 0 ≤ z ∧ z < 18446744073709551616 := by
  simp [Lit.wf, IntKind.min, IntKind.max, IntKind.signed, IntKind.bits] at h
  omega
/-- The weights of a struct's fields are its own. -/
theorem w_op {H : Type} {parts : List (DataW H)} {j : Nat} {t : TypeId} {d : DataW H} (ht : opTypes[j]? = some t) (hd : parts[j]? = some d) : ∀ n ∈ d.weights Tryz.prog t, n ∈ (DataW.agg parts).weights Tryz.prog 39 := fun n hn => by
  have e : (DataW.agg parts).weights Tryz.prog 39 = DataW.weightsEach Tryz.prog opTypes parts := by
    rw [DataW.weights, Tryz.underlying39]
    rfl
  rw [e]
  exact DataW.weights_mem_each ht hd n hn
set_option maxHeartbeats 1000000 in
/-- The cells of an Op that came in. -/
theorem op_cells {H : Type} {enc : TypeId × Value → H} {W : World} {fuel : Nat} {cs : List Value} {y : DataW H × List MemPlace} (h : DataW.trod enc Tryz.prog W 0 (fun _ => true) true fuel 39 cs = some y)
    (hw : ∀ n ∈ y.1.weights Tryz.prog 39, n ≤ reachBytes) : ∃ (k : Int) (o : OpV), cs = (o.c k).toList ∧ OpOk W o := by
  obtain ⟨xs, n, _, hx, hcl, hlen, hfs⟩ := DataW.trod_struct Tryz.underlying39 h
  rw [cellsOp] at hcl
  have hlen : xs.length = 11 := hlen
  obtain ⟨y0, y1, y2, y3, y4, y5, y6, y7, y8, y9, y10, rfl⟩ := list11 hlen
  obtain ⟨c0, c1, c2, c3, c4, c5, c6, c7, t, rfl, ht⟩ := list8 (m := 34) (by omega)
  obtain ⟨c8, c9, hc89⟩ : ∃ c8 c9, t.drop 32 = [c8, c9] := list2 (by simp; omega)
  have tt : t = t.take 32 ++ [c8, c9] := by rw [← hc89, List.take_append_drop]
  have k1 : ∀ T, T ∈ opTypes → T ≠ 36 → Tryz.prog.cellsOf T = 1 := by
    intro T hT hne
    simp only [opTypes, List.mem_cons, List.not_mem_nil, or_false] at hT
    rcases hT with e | e | e | e | e | e | e | e | e | e | e <;> subst e <;> first | exact absurd rfl hne | kernel_rfl
  have t0 : DataW.trod enc Tryz.prog W 0 (fun _ => true) true n 3 [c0] = some y0 := by simpa [k1 3 (by decide) (by decide)] using hfs 0 _ rfl
  have t1 : DataW.trod enc Tryz.prog W 0 (fun _ => true) true n 5 [c1] = some y1 := by simpa [k1 5 (by decide) (by decide)] using hfs 1 _ rfl
  have t2 : DataW.trod enc Tryz.prog W 0 (fun _ => true) true n 4 [c2] = some y2 := by simpa [k1 4 (by decide) (by decide)] using hfs 2 _ rfl
  have t3 : DataW.trod enc Tryz.prog W 0 (fun _ => true) true n 33 [c3] = some y3 := by simpa [k1 33 (by decide) (by decide)] using hfs 3 _ rfl
  have t4 : DataW.trod enc Tryz.prog W 0 (fun _ => true) true n 2 [c4] = some y4 := by simpa [k1 2 (by decide) (by decide)] using hfs 4 _ rfl
  have t5 : DataW.trod enc Tryz.prog W 0 (fun _ => true) true n 34 [c5] = some y5 := by simpa [k1 34 (by decide) (by decide)] using hfs 5 _ rfl
  have t6 : DataW.trod enc Tryz.prog W 0 (fun _ => true) true n 9 [c6] = some y6 := by simpa [k1 9 (by decide) (by decide)] using hfs 6 _ rfl
  have t7 : DataW.trod enc Tryz.prog W 0 (fun _ => true) true n 25 [c7] = some y7 := by simpa [k1 25 (by decide) (by decide)] using hfs 7 _ rfl
  have t8 : DataW.trod enc Tryz.prog W 0 (fun _ => true) true n 36 (t.take 32) = some y8 := by
    have := hfs 8 _ rfl
    simpa [cellsH] using this
  have t9 : DataW.trod enc Tryz.prog W 0 (fun _ => true) true n 37 [c8] = some y9 := by
    have := hfs 9 _ rfl
    simpa [k1 37 (by decide) (by decide), hc89] using this
  have t10 : DataW.trod enc Tryz.prog W 0 (fun _ => true) true n 26 [c9] = some y10 := by
    have := hfs 10 _ rfl
    have e33 : (t.drop 33).take 1 = [c9] := by rw [show 33 = 32 + 1 from rfl, ← List.drop_drop, hc89]; rfl
    simpa [k1 26 (by decide) (by decide), e33] using this
  obtain ⟨z0, e0, _, w0⟩ := DataW.trod_int Tryz.underlying3 t0
  obtain ⟨z1, e1, _, w1⟩ := DataW.trod_int Tryz.underlying5 t1
  obtain ⟨z2, e2, _⟩ := DataW.trod_bool Tryz.underlying4 t2
  obtain ⟨z3, e3, _, w3⟩ := DataW.trod_int Tryz.underlying33 t3
  obtain ⟨z4, e4, _, w4⟩ := DataW.trod_int Tryz.underlying2 t4
  obtain ⟨z5, e5, w5⟩ := trod_float Tryz.underlying34 t5
  obtain ⟨z6, e6, x6, w6⟩ := DataW.trod_string Tryz.underlying9 t6
  obtain ⟨ra, rn, rc, e7, tr7⟩ := trod_sl Tryz.underlying25 t7
  obtain ⟨hh, hh32, e8⟩ := hash_cells t8
  obtain ⟨la, ln, lc, e9, tr9⟩ := trod_sl Tryz.underlying37 t9
  obtain ⟨z10, e10, _, w10⟩ := DataW.trod_int Tryz.underlying26 t10
  simp at e0 e1 e2 e3 e4 e5 e6 e10
  subst e0 e1 e2 e3 e4 e5 e6 e7 e9 e10
  rw [e8] at tt
  obtain ⟨R, hR, _, hRb, hRd⟩ := view_bytes tr7
  obtain ⟨L, hL, hL32, hLl, _, hLd⟩ := view_hashes tr9
  have b3 := u64_wf w3
  have b4 := i64_wf w4
  have b1 := bounds_u8 w1
  have b5 : z5 < 18446744073709551616 := by simpa [Lit.wf, FloatKind.format, Ieee.Format.width, Ieee.double] using w5
  rw [hx] at hw
  have r6 : z6.size ≤ reachBytes := by
    have := hw z6.data.toList.length (w_op (j := 6) (t := 9) (d := y6.1) rfl rfl _ (by rw [x6]; simp [DataW.weights]))
    simpa using this
  have r7 : rn ≤ reachBytes := by
    rcases hRd with ⟨_, h0⟩ | ⟨el, sp, hd, hel⟩
    · omega
    · have := hw ((el.length + sp.length) * Tryz.prog.bytesOf 5) (w_op (j := 7) (t := 25) (d := y7.1) rfl rfl _ (by rw [hd]; simp [DataW.weights, Tryz.underlying25]))
      rw [bytes5] at this
      omega
  have r9 : ln * 32 ≤ reachBytes := by
    rcases hLd with ⟨_, h0⟩ | ⟨el, sp, hd, hel⟩
    · omega
    · have := hw ((el.length + sp.length) * Tryz.prog.bytesOf 36) (w_op (j := 9) (t := 37) (d := y9.1) rfl rfl _ (by rw [hd]; simp [DataW.weights, Tryz.underlying37]))
      rw [bytesH] at this
      omega
  simp only [reachBytes] at r6 r7 r9
  refine ⟨z0, ⟨z1, z2, z3.toNat, z4, z5, z6, ra, rn, rc, hh, la, ln, lc, z10⟩, ?_, hh32, by show z3.toNat < _; omega, b4.1, b4.2, b5, b1.1, b1.2, r6, ⟨R, hR, r7, hRb⟩, ⟨L, hL32, hL, by show ln ≤ _; omega, hLl⟩⟩
  rw [tt]
  show _ = oL _ _ _ _ _ _ _ _ _ _ _
  simp only [oL]
  rw [show ((z3.toNat : Nat) : Int) = z3 by omega]
/-- What a slice of Ops that came in gives a walk. -/
theorem view_ops {H : Type} {enc : TypeId × Value → H} {W : World} {a : Option Addr} {len cap : Nat} {d : DataW H} {p : List MemPlace}
    (h : DataW.Trod enc Tryz.prog W 0 (fun _ => true) true 22 (.slice a len cap) d p) (hw : ∀ n ∈ d.weights Tryz.prog 22, n ≤ reachBytes) :
    ∃ l : List (Int × OpV), l.length = len ∧ len ≤ 140737488351232 ∧ Opl W a l ∧ (d = .nil ∧ len = 0 ∨ ∃ el sp, d = .slice el sp ∧ el.length = len) := by
  obtain ⟨fuel, hf⟩ := h
  rcases DataW.trod_slice Tryz.underlying22 hf with ⟨hcs', hx⟩ | ⟨ad, l, c, elems, rest, n, _, hcs', hx, _, hl, hm, hel, hcell, _, _⟩
  · simp [Value.cells] at hcs'
    obtain ⟨rfl, rfl, rfl⟩ := hcs'
    simp only [Prod.mk.injEq] at hx
    exact ⟨[], rfl, by omega, .inl rfl, .inl ⟨hx.1, rfl⟩⟩
  · simp [Value.cells] at hcs'
    obtain ⟨rfl, rfl, rfl⟩ := hcs'
    simp only [Prod.mk.injEq] at hx
    obtain ⟨b, off, spot⟩ := ad
    have hwd : ∀ n ∈ DataW.weightsAll Tryz.prog 39 (elems.map (·.1)), n ≤ reachBytes := fun n hn => hw n (by
      rw [hx.1]
      simp only [DataW.weights, Tryz.underlying22, List.mem_cons, List.mem_append]
      exact .inr (.inl hn))
    have hbd : len ≤ 140737488351232 := by
      have := hw ((elems.map (·.1)).length * Tryz.prog.bytesOf 39 + (rest.map (·.1)).length * Tryz.prog.bytesOf 39) (by
        rw [hx.1]
        simp only [DataW.weights, Tryz.underlying22, List.mem_cons, List.mem_append, Nat.add_mul]
        exact .inl trivial)
      have hb : Tryz.prog.bytesOf 39 = 144 := by kernel_rfl
      rw [hb] at this
      simp only [reachBytes, List.length_map] at this
      omega
    have raw : ∀ i, i < len → ∃ x : Int × OpV, OpOk W x.2 ∧ ∀ j u, (x.2.c x.1).toList[j]? = some u → W.cell? (((⟨b, off, spot⟩ : Addr).add (i * 42)).add j) = some u := fun i hi => by
      have hi2 := hcell i hi
      have hlt : i < elems.length := by omega
      rw [List.getElem?_eq_getElem hlt, cellsOp, Option.bind_eq_some_iff] at hi2
      obtain ⟨cs, hc1, hc2⟩ := hi2
      obtain ⟨k, o, rfl, ok⟩ := op_cells hc2 (fun n hn => hwd n (w_all (i := i) (d := elems[i].1) (by simp [hlt]) n hn))
      obtain ⟨_, _, hc3⟩ := World.cells?_some hc1
      refine ⟨(k, o), ok, fun j u hu => ?_⟩
      have hj := (List.getElem?_eq_some_iff.1 hu).1
      have hj : j < 42 := by rw [oc_len o k ok.hh] at hj; exact hj
      rw [hc3 j hj]
      exact hu
    have hspot : 0 < len → spot = none := fun h0 => by
      obtain ⟨x, ok, hc⟩ := raw 0 h0
      have q := hc 0 _ (List.getElem?_eq_getElem (by rw [oc_len x.2 x.1 ok.hh]; omega))
      have := World.cell?_spot q
      simpa [Addr.add] using this
    let F : Nat → Int × OpV := fun i => if h : i < len then Classical.choose (raw i h) else (0, ⟨0, false, 0, 0, 0, ⟨#[]⟩, none, 0, 0, [], none, 0, 0, 0⟩)
    have hF : ∀ i (h : i < len), F i = Classical.choose (raw i h) := fun i h => dif_pos h
    refine ⟨(List.range len).map F, by simp, hbd, ?_, .inr ⟨_, _, hx.1, by simp [hel]⟩⟩
    by_cases h0 : 0 < len
    · have hs := hspot h0
      subst hs
      refine .inr ⟨b, off, rfl, fun i k o hv => ?_⟩
      have hi : i < len := by
        have := (List.getElem?_eq_some_iff.1 hv).1
        simpa using this
      rw [List.getElem?_map, List.getElem?_range hi] at hv
      simp only [Option.map_some, Option.some.injEq] at hv
      rw [hF i hi] at hv
      have sp := Classical.choose_spec (raw i hi)
      rw [hv] at sp
      refine ⟨fun j u hu => ?_, sp.1⟩
      have := sp.2 j u hu
      rw [Addr.add_mid, Addr.add_mid] at this
      rwa [show off + 42 * i + j = off + i * 42 + j by omega]
    · obtain rfl : len = 0 := by omega
      exact .inl rfl
/-- What a slice of Reads that came in gives a walk. -/
theorem view_reads {H : Type} {enc : TypeId × Value → H} {W : World} {a : Option Addr} {len cap : Nat} {d : DataW H} {p : List MemPlace}
    (h : DataW.Trod enc Tryz.prog W 0 (fun _ => true) true 69 (.slice a len cap) d p) (hw : ∀ n ∈ d.weights Tryz.prog 69, n ≤ reachBytes) :
    ∃ l : List (Int × Int × Int × Int), l.length = len ∧ len ≤ 140737488351232 ∧ Rdl W a l ∧ (∀ k u m e, (k, u, m, e) ∈ l → 0 ≤ u ∧ u < 18446744073709551616 ∧ -9223372036854775808 ≤ m ∧ m < 9223372036854775808) ∧ (d = .nil ∧ len = 0 ∨ ∃ el sp, d = .slice el sp ∧ el.length = len) := by
  obtain ⟨fuel, hf⟩ := h
  rcases DataW.trod_slice Tryz.underlying69 hf with ⟨hcs', hx⟩ | ⟨ad, l, c, elems, rest, n, _, hcs', hx, _, hl, hm, hel, hcell, _, _⟩
  · simp [Value.cells] at hcs'
    obtain ⟨rfl, rfl, rfl⟩ := hcs'
    simp only [Prod.mk.injEq] at hx
    exact ⟨[], rfl, by omega, .inl rfl, fun _ _ _ _ h => (by cases h), .inl ⟨hx.1, rfl⟩⟩
  · simp [Value.cells] at hcs'
    obtain ⟨rfl, rfl, rfl⟩ := hcs'
    simp only [Prod.mk.injEq] at hx
    obtain ⟨b, off, spot⟩ := ad
    have hbd : len ≤ 140737488351232 := by
      have := hw ((elems.map (·.1)).length * Tryz.prog.bytesOf 79 + (rest.map (·.1)).length * Tryz.prog.bytesOf 79) (by
        rw [hx.1]
        simp only [DataW.weights, Tryz.underlying69, List.mem_cons, List.mem_append, Nat.add_mul]
        exact .inl trivial)
      have hb : Tryz.prog.bytesOf 79 = 32 := by kernel_rfl
      rw [hb] at this
      simp only [reachBytes, List.length_map] at this
      omega
    have raw : ∀ i, i < len → ∃ x : Int × Int × Int × Int, (0 ≤ x.2.1 ∧ x.2.1 < 18446744073709551616 ∧ -9223372036854775808 ≤ x.2.2.1 ∧ x.2.2.1 < 9223372036854775808) ∧ ∀ j u, ([.int .i64 x.1, .int .u64 x.2.1, .int .i64 x.2.2.1, .int .i64 x.2.2.2] : List Value)[j]? = some u → W.cell? (((⟨b, off, spot⟩ : Addr).add (i * 4)).add j) = some u := fun i hi => by
      have hi2 := hcell i hi
      have hlt : i < elems.length := by omega
      rw [List.getElem?_eq_getElem hlt, cellsRead, Option.bind_eq_some_iff] at hi2
      obtain ⟨cs, hc1, hc2⟩ := hi2
      obtain ⟨xs, n', _, _, hcl, hlen, hfs⟩ := DataW.trod_struct Tryz.underlying79 hc2
      rw [cellsRead] at hcl
      have hlen : xs.length = 4 := hlen
      obtain ⟨c0, c1, c2, c3, rfl⟩ := list4 hcl
      obtain ⟨y0, y1, y2, y3, rfl⟩ := list4 hlen
      have q0 : Tryz.prog.cellsOf 3 = 1 := by kernel_rfl
      have q1 : Tryz.prog.cellsOf 33 = 1 := by kernel_rfl
      have q3 : Tryz.prog.cellsOf 26 = 1 := by kernel_rfl
      have t0 : DataW.trod enc Tryz.prog W 0 (fun _ => true) true n' 3 [c0] = some y0 := by simpa [q0] using hfs 0 _ rfl
      have t1 : DataW.trod enc Tryz.prog W 0 (fun _ => true) true n' 33 [c1] = some y1 := by simpa [q1] using hfs 1 _ rfl
      have t2 : DataW.trod enc Tryz.prog W 0 (fun _ => true) true n' 3 [c2] = some y2 := by simpa [q0] using hfs 2 _ rfl
      have t3 : DataW.trod enc Tryz.prog W 0 (fun _ => true) true n' 26 [c3] = some y3 := by simpa [q3] using hfs 3 _ rfl
      obtain ⟨z0, e0, _, _⟩ := DataW.trod_int Tryz.underlying3 t0
      obtain ⟨z1, e1, _, w1⟩ := DataW.trod_int Tryz.underlying33 t1
      obtain ⟨z2, e2, _, w2⟩ := DataW.trod_int Tryz.underlying3 t2
      obtain ⟨z3, e3, _, _⟩ := DataW.trod_int Tryz.underlying26 t3
      simp at e0 e1 e2 e3
      subst e0 e1 e2 e3
      have b1 := u64_wf w1
      have b2 := i64_wf w2
      obtain ⟨_, _, hc3⟩ := World.cells?_some hc1
      refine ⟨(z0, z1, z2, z3), ⟨b1.1, b1.2, b2.1, b2.2⟩, fun j u hu => ?_⟩
      have hj := (List.getElem?_eq_some_iff.1 hu).1
      have hj : j < 4 := by simpa using hj
      rw [hc3 j hj]
      exact hu
    have hspot : 0 < len → spot = none := fun h0 => by
      obtain ⟨x, _, hc⟩ := raw 0 h0
      have q := hc 0 _ rfl
      have := World.cell?_spot q
      simpa [Addr.add] using this
    let F : Nat → Int × Int × Int × Int := fun i => if h : i < len then Classical.choose (raw i h) else (0, 0, 0, 0)
    have hF : ∀ i (h : i < len), F i = Classical.choose (raw i h) := fun i h => dif_pos h
    refine ⟨(List.range len).map F, by simp, hbd, ?_, fun k u m e hv => ?_, .inr ⟨_, _, hx.1, by simp [hel]⟩⟩
    · by_cases h0 : 0 < len
      · have hs := hspot h0
        subst hs
        refine .inr ⟨b, off, rfl, fun i k u m e hv => ?_⟩
        have hi : i < len := by
          have := (List.getElem?_eq_some_iff.1 hv).1
          simpa using this
        rw [List.getElem?_map, List.getElem?_range hi] at hv
        simp only [Option.map_some, Option.some.injEq] at hv
        rw [hF i hi] at hv
        have sp := (Classical.choose_spec (raw i hi)).2
        rw [hv] at sp
        intro j v hu
        have := sp j v hu
        rw [Addr.add_mid, Addr.add_mid] at this
        rwa [show off + 4 * i + j = off + i * 4 + j by omega]
      · obtain rfl : len = 0 := by omega
        exact .inl rfl
    · rw [List.mem_map] at hv
      obtain ⟨i, hi, hv⟩ := hv
      rw [List.mem_range] at hi
      rw [hF i hi] at hv
      have sp := (Classical.choose_spec (raw i hi)).1
      rw [hv] at sp
      exact sp
end Go.Proofs.YtdnocpngdepbgaaGreatDoor

