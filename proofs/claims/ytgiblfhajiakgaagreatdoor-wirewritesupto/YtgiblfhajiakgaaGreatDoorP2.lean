import Derived.Test.YtgiblfhajiakgaaGreatDoorP1
import Derived.Test.YtgiblfhajiakgaaGreatDoorKKm
import Derived.Test.YtgiblfhajiakgaaGreatDoorGy
import Derived.Test.YtgiblfhajiakgaaGreatDoorSv
import Derived.Test.YtgiblfhajiakgaaGreatDoorP0
import Derived.Test.YtgiblfhajiakgaaGreatDoorVi
import Derived.Laws.CopyOwn
namespace Go.Proofs.YtgiblfhajiakgaaGreatDoor.K
open Go.RowKit
set_option linter.unusedVariables false
set_option linter.unusedSimpArgs false

/-! What must be whatever is asked. -/
variable {p : Nat} {g : Option Nat} {M : List UInt8} {e : Int}
set_option maxRecDepth 100000 in
theorem wlen_any (n : Nat) (w : World) (hw : WS w 28 p g M e) (hn : M.length = n) :
    Calls Tryz.prog 8 #[.pointer (some ⟨p, 0, none⟩)] w fun x w' => x = .returned (.int .i64 (n : Int)) ∧ w' = w := by
  subst hn
  obtain ⟨a, cv, c0, c1, _, _⟩ := hw.view
  clear hw
  generalize M.length = n at *
  go_enter Tryz.func8, Tryz.ntmps8
  go_wp2
  go_ret
  exact ⟨rfl, rfl⟩
theorem ws_new (w : World) (T : TypeId) : WS (w.alloc (.cells #[.slice none 0 0, .int .i64 0] T)) T w.heap.size none [] 0 := ⟨⟨.slice none 0 0, heap_alloc_new _ _, ownB_nil _ _, rfl⟩, by simp⟩
/-- A Writer of the call's own: what was there ahead stays. -/
theorem Wr.below {w w0 w1 : World} {T : TypeId} {p : Nat} {M : List UInt8} {e : Int} (h : Wr w0 w1 T p none M e) (h0 : Below w.heap.size w w0) (hp : w.heap.size ≤ p) : Below w.heap.size w w1 := by
  obtain ⟨g', _, f, _⟩ := h
  have hz := h0.size
  exact ⟨f.os.trans h0.os, f.tape.trans h0.tape, f.output.trans h0.output, Nat.le_trans h0.size f.size, fun k hk => (f.block k (by omega) (by omega) (by simp)).trans (h0.block k hk)⟩
def BB : List UInt8 := [172, 2, 1, 2, 97, 98, 63, 248, 0, 0, 0, 0, 0, 0]
theorem bb1 : wA [] 0 (vint 300) = [172, 2] := by rw [wA_0, vint_ge (by omega), vint_lt (by omega)]; rfl
theorem bb2 : wA [172, 2] 0 (vint (zig (-1))) = [172, 2, 1] := by rw [wA_0, show zig (-1) = 1 from rfl, vint_lt (by omega)]; rfl
theorem bb3 : wA [172, 2, 1] 0 (vint 2 ++ [97, 98]) = [172, 2, 1, 2, 97, 98] := by rw [wA_0, vint_lt (by omega)]; rfl
theorem bb4 : wA [172, 2, 1, 2, 97, 98] 0 (b8 4609434218613702656) = BB := by rw [wA_0]; decide +kernel
theorem rb1 : rUint BB 300 ⟨0, 0, 0⟩ = (300, ⟨2, 0, 0⟩) := by kernel_rfl
theorem rb2 : rInt BB ⟨2, 0, 0⟩ = (-1, ⟨3, 0, 0⟩) := by kernel_rfl
theorem rb3 : rText BB 2 ⟨3, 0, 0⟩ = ([97, 98], ⟨6, 0, 0⟩) := by kernel_rfl
theorem rb4 : rFloat BB ⟨6, 0, 0⟩ = (4609434218613702656, ⟨14, 0, 0⟩) := by kernel_rfl
theorem rb5 : doneE BB ⟨14, 0, 0⟩ = 0 ∧ doneP BB ⟨14, 0, 0⟩ = 0 := by decide +kernel
theorem vab : Lib.validD (⟨#[97, 98]⟩ : ByteArray).data.toList = true := by decide +kernel
theorem fin15 : finB 4609434218613702656 = true := by decide +kernel
theorem bb_cells : (#[.int .u8 172, .int .u8 2, .int .u8 1, .int .u8 2, .int .u8 97, .int .u8 98, .int .u8 63, .int .u8 248, .int .u8 0, .int .u8 0, .int .u8 0, .int .u8 0, .int .u8 0, .int .u8 0] : Array Value) = bs BB := rfl
set_option maxRecDepth 100000 in
set_option maxHeartbeats 4000000 in
theorem live_any (w : World) (hT : Tabs w) : Calls Tryz.prog 5 #[] w fun e w' => e = .returned (.bool true) ∧ Below w.heap.size w w' := by
  obtain ⟨w0, hw0⟩ : ∃ w0, w0 = w.alloc (.cells #[.slice none 0 0, .int .i64 0] 28) := ⟨_, rfl⟩
  have be0 : Hid (Below w.heap.size w w0) := by rw [hw0]; exact (Below.refl _ _).alloc (Nat.le_refl _) _
  have W0 : WS w0 28 w.heap.size none [] 0 := by rw [hw0]; exact ws_new w _
  have HT := Hid.mk' hT
  have H1 := Hid.mk' (wuint_any 300 (by decide) w0 W0 (by decide))
  rw [bb1] at H1
  clear hT W0
  go_enter Tryz.func5, Tryz.ntmps5
  go_wp2_with fail
  rw [← hw0]
  clear hw0
  refine H1.out.mono ?_
  rintro e w1 ⟨rfl, a1⟩
  have A1 := Hid.mk' a1
  have H2 : Hid (Calls Tryz.prog 27 #[.pointer (some ⟨w.heap.size, 0, none⟩), .int .i64 (-1)] w1 fun x w' => x = .returned (.tuple #[]) ∧ Wr w0 w' 28 w.heap.size none [172, 2, 1] 0) := by
    obtain ⟨g1, ws, fr, nw⟩ := a1
    have := wint_any (-1) (by decide) (by decide) w1 ws (by decide)
    rw [bb2] at this
    exact this.mono fun x w' h => ⟨h.1, Wr.step fr nw h.2⟩
  clear a1 H1
  go_wp2_with fail
  refine H2.out.mono ?_
  rintro e w2 ⟨rfl, a2⟩
  have H3 : Hid (Calls Tryz.prog 28 #[.pointer (some ⟨w.heap.size, 0, none⟩), .string ⟨#[97, 98]⟩] w2 fun x w' => x = .returned (.tuple #[]) ∧ Wr w0 w' 28 w.heap.size none [172, 2, 1, 2, 97, 98] 0) := by
    have hb2 := a2.below be0.out (Nat.le_refl _)
    obtain ⟨g1, ws, fr, nw⟩ := a2
    have := wtext_any ⟨#[97, 98]⟩ (by decide) vab w2 ws (HT.out.below hb2) (by decide)
    rw [show vint (⟨#[97, 98]⟩ : ByteArray).size ++ (⟨#[97, 98]⟩ : ByteArray).data.toList = vint 2 ++ [97, 98] from rfl, bb3] at this
    exact this.mono fun x w' h => ⟨h.1, Wr.step fr nw h.2⟩
  clear a2 H2 A1
  go_wp2_with fail
  refine H3.out.mono ?_
  rintro e w3 ⟨rfl, a3⟩
  have H4 : Hid (Calls Tryz.prog 29 #[.pointer (some ⟨w.heap.size, 0, none⟩), .float .f64 4609434218613702656] w3 fun x w' => x = .returned (.tuple #[]) ∧ Wr w0 w' 28 w.heap.size none BB 0) := by
    obtain ⟨g1, ws, fr, nw⟩ := a3
    have := wfloat_any 4609434218613702656 (by decide) fin15 w3 ws (by decide)
    rw [bb4] at this
    exact this.mono fun x w' h => ⟨h.1, Wr.step fr nw h.2⟩
  clear a3 H3
  go_wp2_with fail
  refine H4.out.mono ?_
  rintro e w4 ⟨rfl, a4⟩
  have b4 : Below w.heap.size w w4 := a4.below be0.out (Nat.le_refl _)
  obtain ⟨g4, ws4, fr4, nw4⟩ := a4
  have H5 := Hid.mk' (wdone0 w4 ws4 (by decide) (by decide))
  have WS4 := Hid.mk' ws4
  have B4 := Hid.mk' b4
  clear fr4 nw4 ws4 b4 H4
  go_wp2_with fail
  refine H5.out.mono ?_
  rintro e w5 ⟨bk, cv, rfl, own5, b5⟩
  have B5 : Hid (Below w.heap.size w w5) := B4.out.trans (b5.mono B4.out.size)
  have WS5 : Hid (WS w5 28 w.heap.size g4 BB 0) := WS4.out.below b5
  have Y5 : Hid (Byt w5 (some ⟨bk, 0, none⟩) BB) := by
    obtain ⟨a, cap, h1, h2, h3, h4⟩ := own5.open
    cases h1
    exact h3
  have LB : BB.length = 14 := rfl
  rw [LB]
  have bA : Below w5.heap.size w5 (w5.alloc (.cells (bs BB) 5)) := (Below.refl _ _).alloc (Nat.le_refl _) _
  have S6 : Hid (Calls Tryz.prog 12 #[.slice (some ⟨bk, 0, none⟩) 14 cv, .slice (some ⟨w5.heap.size, 0, none⟩) 14 14] (w5.alloc (.cells #[.int .u8 172, .int .u8 2, .int .u8 1, .int .u8 2, .int .u8 97, .int .u8 98, .int .u8 63, .int .u8 248, .int .u8 0, .int .u8 0, .int .u8 0, .int .u8 0, .int .u8 0, .int .u8 0] 5)) fun e w' => e = .returned (.bool true) ∧ Below w5.heap.size w5 w') :=
    (same_any (some ⟨bk, 0, none⟩) (some ⟨w5.heap.size, 0, none⟩) BB 14 cv 14 (w5.alloc (.cells (bs BB) 5)) rfl (byt_below Y5.out bA) (byt_lit w5 BB 5) (by decide)).mono fun e w' ⟨h1, m, h2⟩ => by
      have bB := below_drewN bA m
      rw [← h2] at bB
      exact ⟨h1, bB⟩
  clear own5 b5 LB bA H5
  go_wp2_with fail
  refine S6.out.mono ?_
  rintro e w6 ⟨rfl, b6⟩
  have B6 : Hid (Below w.heap.size w w6) := B5.out.trans (b6.mono B5.out.size)
  have Y6 : Hid (Byt w6 (some ⟨bk, 0, none⟩) BB) := byt_below Y5.out b6
  have L6 := Hid.mk' (wlen_any 14 w6 (WS5.out.below b6) rfl)
  clear b6 S6
  go_wp2_with fail
  refine L6.out.mono ?_
  rintro e w7 ⟨rfl, hw7⟩
  subst hw7
  have N7 := Hid.mk' (new_any bk 0 14 cv BB w7 rfl (by decide) Y6.out)
  clear L6
  go_wp2_with fail
  refine N7.out.mono ?_
  rintro e w8 ⟨r, a, c, rfl, rd8, hr8, b8⟩
  have B8 : Hid (Below w.heap.size w w8) := B6.out.trans (b8.mono B6.out.size)
  have hr : Hid (w.heap.size ≤ r) := by show _ ≤ _; have := B6.out.size; omega
  have U8 := Hid.mk' (uint_any 300 (by decide) w8 rd8)
  rw [rb1] at U8
  clear rd8 b8 N7
  go_wp2_with fail
  refine U8.out.mono ?_
  rintro e w9 ⟨rfl, rd9, fr9⟩
  have B9 : Hid (Below w.heap.size w w9) := B8.out.trans (fr9.below _ hr.out B8.out.size)
  have I9 := Hid.mk' (int_any w9 rd9)
  rw [rb2] at I9
  clear rd9 fr9 U8
  go_wp2_with fail
  refine I9.out.mono ?_
  rintro e w10 ⟨rfl, rd10, fr10⟩
  have B10 : Hid (Below w.heap.size w w10) := B9.out.trans (fr10.below _ hr.out B9.out.size)
  have T10 := Hid.mk' (text_any 2 (by decide) w10 rd10 (HT.out.below B10.out) (HT.out.ne hr.out))
  rw [rb3] at T10
  clear rd10 fr10 I9
  go_wp2_with fail
  refine T10.out.mono ?_
  rintro e w11 ⟨rfl, rd11, fr11⟩
  have B11 : Hid (Below w.heap.size w w11) := B10.out.trans (fr11.below _ hr.out B10.out.size)
  have F11 := Hid.mk' (float_any w11 rd11)
  rw [rb4] at F11
  clear rd11 fr11 T10
  go_wp2_with fail
  refine F11.out.mono ?_
  rintro e w12 ⟨rfl, rd12, fr12⟩
  have B12 : Hid (Below w.heap.size w w12) := B11.out.trans (fr12.below _ hr.out B11.out.size)
  have D12 := Hid.mk' (rdone_any w12 rd12)
  rw [rb5.1, rb5.2] at D12
  have R12 := Hid.mk' rd12
  clear rd12 fr12 F11
  go_wp2_with fail
  refine D12.out.mono ?_
  rintro e w13 ⟨rfl, m13, hm13⟩
  have B13 : Hid (Below w.heap.size w w13) := by rw [hm13]; exact below_drewN B12.out _
  have A13 : Hid (Calls Tryz.prog 35 #[.pointer (some ⟨r, 0, none⟩)] w13 fun e w' => e = .returned (.int .i64 14) ∧ w' = w13) := by rw [hm13]; exact rat_any _ (R12.out.drew m13)
  have z : (FloatKind.f64.format.order 4609434218613702656 4609434218613702656 == some .eq) = true := by decide +kernel
  clear hm13 D12
  go_wp2_with fail
  refine A13.out.mono ?_
  rintro e w14 ⟨rfl, hw14⟩
  subst hw14
  go_wp2
  go_ret
  exact ⟨rfl, B13.out⟩
end Go.Proofs.YtgiblfhajiakgaaGreatDoor.K

namespace Go.Proofs.YtgiblfhajiakgaaGreatDoor
open Go.RowKit
set_option linter.unusedVariables false
set_option linter.unusedSimpArgs false

/-- What an Op may be. -/
structure OpOk (W : World) (o : OpV) : Prop where
  hh : o.h.length = 32
  u : o.u < 18446744073709551616
  n0 : -9223372036854775808 ≤ o.n
  n1 : o.n < 9223372036854775808
  f : o.f < 18446744073709551616
  b0 : 0 ≤ o.b
  b1 : o.b ≤ 255
  s : o.s.size ≤ 140737488351232
  r : ∃ R : List UInt8, R.length = o.rn ∧ o.rn ≤ 140737488351232 ∧ K.Byt W o.ra R
  l : ∃ L : List (List UInt8), All32 L ∧ L.length = o.ln ∧ o.ln ≤ 4398046510976 ∧ Hl W o.la L
theorem wdd_below {w w' : World} {Post : World → World → Prop} (h : Wdd w Post w') (hp : ∀ wx w1, Post wx w1 → Below wx.heap.size wx w1) : Below w.heap.size w w' := by
  obtain ⟨wx, b, _, q⟩ := h
  exact b.trans ((hp _ _ q).mono b.size)
theorem wee_below {w w' : World} {Post : World → World → Prop} (h : Wee w Post w') (hp : ∀ wx w1, Post wx w1 → Below wx.heap.size wx w1) : Below w.heap.size w w' := by
  obtain ⟨wx, w1, b, hz, q, f⟩ := h
  have b2 := b.trans ((hp _ _ q).mono b.size)
  have hz2 := (hp _ _ q).size
  exact ⟨f.os.trans b2.os, f.tape.trans b2.tape, f.output.trans b2.output, Nat.le_trans b2.size f.size, fun k hk => (f.block k (by omega) (by omega)).trans (b2.block k hk)⟩
theorem rdd_below {w w' : World} {Post : World → World → Prop} (h : Rdd w Post w') (hp : ∀ wx w1, Post wx w1 → Below wx.heap.size wx w1) : Below w.heap.size w w' := by
  obtain ⟨wx, w1, b, hz, q, f⟩ := h
  have b2 := b.trans ((hp _ _ q).mono b.size)
  have := f.below (B := w.heap.size) (by omega)
  exact b2.trans this
theorem wnil (k : Int) (o : OpV) (W w : World) (ok : OpOk W o) (hb : Below W.heap.size W w) (hT : K.Tabs W) :
    Calls Tryz.prog 6 #[.pointer none, .agg (o.c k)] w fun x w' => x = .returned (.bool true) ∧ Below w.heap.size w w' := by
  have fin : ∀ {x : Ending} {w' : World} {Post : World → World → Prop}, (∀ wx w1, Post wx w1 → Below wx.heap.size wx w1) → (x = .returned (.bool true) ∧ Wdd w Post w') → (x = .returned (.bool true) ∧ Below w.heap.size w w') := fun hp h => ⟨h.1, wdd_below h.2 hp⟩
  by_cases hk : k < 0 ∨ 10 < k
  · exact (write_no none o ok.hh k hk w).mono fun x w' h => fin (fun wx w1 e => by subst e; exact Below.refl _ _) h
  · have : k = 0 ∨ k = 1 ∨ k = 2 ∨ k = 3 ∨ k = 4 ∨ k = 5 ∨ k = 6 ∨ k = 7 ∨ k = 8 ∨ k = 9 ∨ k = 10 := by omega
    rcases this with e | e | e | e | e | e | e | e | e | e | e <;> subst e
    · exact (write_0 none o ok.hh w (fun wx w1 => Below wx.heap.size wx w1) (fun wx _ _ => K.nbyte _ wx)).mono fun x w' h => fin (fun _ _ e => e) h
    · exact (write_1 none o ok.hh w (fun wx w1 => Below wx.heap.size wx w1) (fun wx _ _ => K.nbool _ wx)).mono fun x w' h => fin (fun _ _ e => e) h
    · exact (write_2 none o ok.hh w (fun wx w1 => Below wx.heap.size wx w1) (fun wx _ _ => K.nfix _ (by omega) (by omega) wx)).mono fun x w' h => fin (fun _ _ e => e) h
    · exact (write_3 none o ok.hh w (fun wx w1 => Below wx.heap.size wx w1) (fun wx _ _ => K.nuint _ ok.u wx)).mono fun x w' h => fin (fun _ _ e => e) h
    · exact (write_4 none o ok.hh w (fun wx w1 => Below wx.heap.size wx w1) (fun wx _ _ => K.nint _ ok.n0 ok.n1 wx)).mono fun x w' h => fin (fun _ _ e => e) h
    · exact (write_5 none o ok.hh w (fun wx w1 => Below wx.heap.size wx w1) (fun wx _ _ => K.nfloat _ ok.f wx)).mono fun x w' h => fin (fun _ _ e => e) h
    · exact (write_6 none o ok.hh w (fun wx w1 => Below wx.heap.size wx w1) (fun wx bx _ => K.ntext _ (by have := ok.s; omega) wx (hT.below (hb.trans (bx.mono hb.size))))).mono fun x w' h => fin (fun _ _ e => e) h
    · obtain ⟨R, h1, h2, h3⟩ := ok.r
      refine (write_7 none o ok.hh R h1 h2 w (K.byt_below h3 hb) (fun wx w1 => Below wx.heap.size wx w1) (fun wx bx _ _ => ?_)).mono fun x w' h => ⟨h.1, wee_below h.2 (fun _ _ e => e)⟩
      exact (K.nraw _ _ _ (by omega) wx).mono fun x w1 h => ⟨h.1, h.2, Keeps.of_below h.2, K.byt_below (K.byt_below h3 (hb.trans (bx.mono hb.size))) h.2⟩
    · exact (write_8 none o ok.hh w (fun wx w1 => Below wx.heap.size wx w1) (fun wx _ _ => nhash _ ok.hh wx)).mono fun x w' h => fin (fun _ _ e => e) h
    · obtain ⟨L, h32, h1, h2, h3⟩ := ok.l
      refine (write_9 none o ok.hh L h32 h1 h2 w (h3.below h32 hb) (fun wx w1 => Below wx.heap.size wx w1) (fun wx bx _ hs => ?_)).mono fun x w' h => ⟨h.1, wee_below h.2 (fun _ _ e => e)⟩
      have := nhashes ⟨w.heap.size + 1, 0, none⟩ L (o.ln + 9) wx h32 (by omega) (.inr ⟨_, _, rfl, hs⟩)
      rw [h1] at this
      exact this.mono fun x w1 h => ⟨h.1, h.2, Keeps.of_below h.2, (h3.below h32 (hb.trans (bx.mono hb.size))).below h32 h.2⟩
    · exact (write_10 none o ok.hh w (fun wx w1 => Below wx.heap.size wx w1) (fun wx _ _ => (K.nfail _ wx).mono fun x w1 h => ⟨h.1, by rw [h.2]; exact Below.refl _ _⟩)).mono fun x w' h => fin (fun _ _ e => e) h
theorem rnil (k u m e : Int) (w : World) :
    Calls Tryz.prog 21 #[.pointer none, .agg #[.int .i64 k, .int .u64 u, .int .i64 m, .int .i64 e]] w fun x w' => x = .returned (.agg gz) ∧ Below w.heap.size w w' := by
  have fin : ∀ {x : Ending} {w' : World}, (x = .returned (.agg gz) ∧ Rdd w (fun wx w1 => w1 = wx) w') → (x = .returned (.agg gz) ∧ Below w.heap.size w w') := fun h => ⟨h.1, rdd_below h.2 (fun wx w1 e => by subst e; exact Below.refl _ _)⟩
  have kp : ∀ {x : Ending} {v : Value} {wx w1 : World}, (x = .returned v ∧ w1 = wx) → (x = .returned v ∧ w1 = wx ∧ Keeps w.heap.size wx w1) := fun h => ⟨h.1, h.2, by rw [h.2]; exact Keeps.refl _ _⟩
  by_cases hk : k < 0 ∨ 10 < k
  · exact (read_no none k u m e hk w).mono fun x w' h => fin h
  · have : k = 0 ∨ k = 1 ∨ k = 2 ∨ k = 3 ∨ k = 4 ∨ k = 5 ∨ k = 6 ∨ k = 7 ∨ k = 8 ∨ k = 9 ∨ k = 10 := by omega
    rcases this with e | e | e | e | e | e | e | e | e | e | e <;> subst e
    · exact (read_0 none u m e 0 w (fun wx w1 => w1 = wx) (fun wx _ _ => (nrbyte wx).mono fun x w1 h => kp h)).mono fun x w' h => fin h
    · exact (read_1 none u m e false w (fun wx w1 => w1 = wx) (fun wx _ _ => (nrbool wx).mono fun x w1 h => kp h)).mono fun x w' h => fin h
    · exact (read_2 none u m e 0 (by decide) (by decide) w (fun wx w1 => w1 = wx) (fun wx _ _ => (nrfix wx).mono fun x w1 h => kp h)).mono fun x w' h => fin h
    · exact (read_3 none u m e 0 w (fun wx w1 => w1 = wx) (fun wx _ _ => (nruint _ wx).mono fun x w1 h => kp h)).mono fun x w' h => fin h
    · exact (read_4 none u m e 0 w (fun wx w1 => w1 = wx) (fun wx _ _ => (nrint wx).mono fun x w1 h => kp h)).mono fun x w' h => fin h
    · exact (read_5 none u m e 0 w (fun wx w1 => w1 = wx) (fun wx _ _ => (nrfloat wx).mono fun x w1 h => kp h)).mono fun x w' h => fin h
    · exact (read_6 none u m e ⟨#[]⟩ w (fun wx w1 => w1 = wx) (fun wx _ _ => (nrtext _ wx).mono fun x w1 h => kp h)).mono fun x w' h => fin h
    · refine (read_7 none u m e w (fun v wx w1 => v = .slice none 0 0 ∧ w1 = wx) (fun wx _ _ => (nrraw _ wx).mono fun x w1 h => ⟨none, 0, 0, h.1, ⟨rfl, h.2⟩, by rw [h.2]; exact Keeps.refl _ _⟩)).mono ?_
      rintro x w' ⟨a, n, c, rfl, wx, w1, h1, h2, ⟨h3, h4⟩, h5⟩
      rw [h3]
      exact fin ⟨rfl, wx, w1, h1, h2, h4, h5⟩
    · refine (read_8 none u m e z32 z32_len w (fun wx w1 => Below wx.heap.size wx w1) (fun wx _ _ => (nrhash wx).mono fun x w1 h => ⟨h.1, h.2, Keeps.of_below h.2⟩)).mono ?_
      rintro x w' ⟨rfl, h⟩
      exact ⟨rfl, rdd_below h (fun _ _ e => e)⟩
    · refine (read_9 none u m e w (fun v wx w1 => v = .slice none 0 0 ∧ w1 = wx) (fun wx _ _ => (nrhashes _ wx).mono fun x w1 h => ⟨none, 0, 0, h.1, ⟨rfl, h.2⟩, by rw [h.2]; exact Keeps.refl _ _⟩)).mono ?_
      rintro x w' ⟨a, n, c, rfl, wx, w1, h1, h2, ⟨h3, h4⟩, h5⟩
      rw [h3]
      exact fin ⟨rfl, wx, w1, h1, h2, h4, h5⟩
    · exact (read_10 none u m e w (fun wx w1 => w1 = wx) (fun wx _ _ => (nrfail _ _ wx).mono fun x w1 h => kp h)).mono fun x w' h => fin h
theorem samegz (w : World) : Calls Tryz.prog 22 #[.agg gz, .agg gz] w fun e w' => e = .returned (.bool true) ∧ Below w.heap.size w w' :=
  same_true 0 0 0 false 0 ⟨#[]⟩ none none 0 0 0 [] z32 none none 0 0 0 [] w rfl (by decide) (.inl rfl) (.inl rfl) z32_len (fun _ h => by cases h) rfl (by decide) (.inl rfl) (.inl rfl) (fun wx => sameV0 wx)
end Go.Proofs.YtgiblfhajiakgaaGreatDoor

namespace Go.Proofs.YtgiblfhajiakgaaGreatDoor
open Go.RowKit
set_option linter.unusedVariables false
set_option linter.unusedSimpArgs false

/-- Ops that lie in memory. -/
def Opl (W : World) (a : Option Addr) (l : List (Int × OpV)) : Prop := l = [] ∨ ∃ b off, a = some ⟨b, off, none⟩ ∧ ∀ (i : Nat) (k : Int) (o : OpV), l[i]? = some (k, o) → W.rangeAt b (off + 42 * i) (o.c k).toList ∧ OpOk W o
theorem Opl.at {W : World} {a : Option Addr} {l : List (Int × OpV)} (h : Opl W a l) {i : Nat} (hi : i < l.length) : ∃ b off k o, a = some ⟨b, off, none⟩ ∧ l[i]? = some (k, o) ∧ W.rangeAt b (off + 42 * i) (o.c k).toList ∧ OpOk W o ∧ b < W.heap.size := by
  rcases h with rfl | ⟨b, off, rfl, h⟩
  · simp at hi
  · obtain ⟨⟨k, o⟩, e⟩ : ∃ x, l[i]? = some x := ⟨_, List.getElem?_eq_getElem hi⟩
    obtain ⟨h1, h2⟩ := h i k o e
    refine ⟨b, off, k, o, rfl, e, h1, h2, rangeAt_lt h1 ?_⟩
    show 0 < (oL _ _ _ _ _ _ _ _ _ _ _).length
    rw [oL_len h2.hh]
    omega
/-- Reads that lie in memory. -/
def Rdl (W : World) (a : Option Addr) (l : List (Int × Int × Int × Int)) : Prop := l = [] ∨ ∃ b off, a = some ⟨b, off, none⟩ ∧ ∀ (i : Nat) (k u m e : Int), l[i]? = some (k, u, m, e) → W.rangeAt b (off + 4 * i) [.int .i64 k, .int .u64 u, .int .i64 m, .int .i64 e]
theorem Rdl.at {W : World} {a : Option Addr} {l : List (Int × Int × Int × Int)} (h : Rdl W a l) {i : Nat} (hi : i < l.length) : ∃ b off k u m e, a = some ⟨b, off, none⟩ ∧ l[i]? = some (k, u, m, e) ∧ W.rangeAt b (off + 4 * i) [.int .i64 k, .int .u64 u, .int .i64 m, .int .i64 e] ∧ b < W.heap.size := by
  rcases h with rfl | ⟨b, off, rfl, h⟩
  · simp at hi
  · obtain ⟨⟨k, u, m, e⟩, he⟩ : ∃ x, l[i]? = some x := ⟨_, List.getElem?_eq_getElem hi⟩
    have h1 := h i k u m e he
    exact ⟨b, off, k, u, m, e, rfl, he, h1, rangeAt_lt h1 (by simp)⟩
theorem sizeOp : (Tryz.prog.info? 39).map (·.size) = some 42 := by kernel_rfl
theorem sizeRead : (Tryz.prog.info? 79).map (·.size) = some 4 := by kernel_rfl
theorem info_some {t : TypeId} {n : Nat} (h : (Tryz.prog.info? t).map (·.size) = some n) : ∃ i, Tryz.prog.info? t = some i ∧ i.size = n := by
  cases hq : Tryz.prog.info? t with
  | none => rw [hq] at h; simp at h
  | some i => rw [hq] at h; simp at h; exact ⟨i, rfl, h⟩
theorem indexOp (b off n cap k : Nat) (w : World) (hk : k < n) :
    (Instr.indexAt 22 (.slice (some ⟨b, off, none⟩) n cap) (.int .i64 (k : Int))).run Tryz.prog w = .ok (.pointer (some ⟨b, off + 42 * k, none⟩)) w := by
  obtain ⟨i, hi, hs⟩ := info_some sizeOp
  have hu := Tryz.underlying22
  have he : Tryz.prog.elem 22 = 39 := by kernel_rfl
  rw [run_indexAt_slice (P := Tryz.prog) _ _ _ _ _ _ _ (by rw [he]; exact hu)]
  simp [hk, he, hi, hs, Go.sizeOf, typeInfo, Addr.add_mid]
theorem indexRead (b off n cap k : Nat) (w : World) (hk : k < n) :
    (Instr.indexAt 69 (.slice (some ⟨b, off, none⟩) n cap) (.int .i64 (k : Int))).run Tryz.prog w = .ok (.pointer (some ⟨b, off + 4 * k, none⟩)) w := by
  obtain ⟨i, hi, hs⟩ := info_some sizeRead
  have hu := Tryz.underlying69
  have he : Tryz.prog.elem 69 = 79 := by kernel_rfl
  rw [run_indexAt_slice (P := Tryz.prog) _ _ _ _ _ _ _ (by rw [he]; exact hu)]
  simp [hk, he, hi, hs, Go.sizeOf, typeInfo, Addr.add_mid]
theorem oc_len (o : OpV) (k : Int) (hh : o.h.length = 32) : (o.c k).toList.length = 42 := by
  show (oL _ _ _ _ _ _ _ _ _ _ _).length = 42
  exact oL_len hh
theorem hbG : Tryz.prog.built 76 [] = some gz := by kernel_rfl

end Go.Proofs.YtgiblfhajiakgaaGreatDoor

namespace Go.Proofs.YtgiblfhajiakgaaGreatDoor
open Go.ChangeShapes Go.WideShapes Go.ChangeAt Go.RowKit
set_option linter.unusedVariables false
set_option linter.unusedSimpArgs false

theorem bytes5 : Tryz.prog.bytesOf 5 = 1 := by kernel_rfl
/-- What a slice of bytes that came in gives a walk. -/
theorem view_bytes {H : Type} {enc : TypeId × Value → H} {W : World} {a : Option Addr} {len cap : Nat} {d : DataW H} {p : List MemPlace}
    (h : DataW.Trod enc Tryz.prog W 0 (fun _ => true) true 25 (.slice a len cap) d p) :
    ∃ L : List UInt8, L.length = len ∧ len ≤ cap ∧ K.Byt W a L ∧ (d = .nil ∧ len = 0 ∨ ∃ el sp, d = .slice el sp ∧ el.length = len) := by
  obtain ⟨fuel, hf⟩ := h
  rcases open_ints Tryz.underlying25 Tryz.underlying5 (by kernel_rfl) hf with ⟨hcs, hx⟩ | ⟨x, l, c, zs, hcs, _, hl, hm, hz, hx, hcell, hwz⟩
  · simp [Value.cells] at hcs
    obtain ⟨rfl, rfl, rfl⟩ := hcs
    simp only [Prod.mk.injEq] at hx
    exact ⟨[], rfl, Nat.le_refl _, .inl rfl, .inl ⟨hx.1, rfl⟩⟩
  · simp [Value.cells] at hcs
    obtain ⟨rfl, rfl, rfl⟩ := hcs
    have hz' : zs.length = cap := by simpa using hz
    simp only [Prod.mk.injEq] at hx
    have hlen0 : ((zs.take len).map (fun z => UInt8.ofNat z.toNat)).length = len := by simp; omega
    refine ⟨(zs.take len).map (fun z => UInt8.ofNat z.toNat), hlen0, hl, ?_, .inr ⟨_, _, hx.1, by simp [lits]; omega⟩⟩
    by_cases h0 : 0 < len
    · obtain ⟨b, off, spot⟩ := x
      have hc := hcell 0 (by omega)
      have hspot : spot = none := by simpa [Addr.add] using World.cell?_spot hc
      subst hspot
      refine .inr ⟨b, off, rfl, fun j hj => ?_⟩
      rw [hlen0] at hj
      have h1 := hcell j (by omega)
      have e : (⟨b, off, none⟩ : Addr).add j = ⟨b, off + j, none⟩ := by unfold Addr.add; split <;> simp_all
      rw [e] at h1
      rw [h1]
      have hb := bounds_u8 (hwz (zs.getD j 0) (by rw [List.getD_eq_getElem?_getD, List.getElem?_eq_getElem (by omega)]; exact List.getElem_mem _))
      have hlen : j < zs.length := by omega
      simp only [K.at8, List.getD_eq_getElem?_getD, List.getElem?_map, List.getElem?_take, if_pos hj, List.getElem?_eq_getElem hlen, Option.map_some, Option.getD_some] at hb ⊢
      rw [UInt8.toNat_ofNat']
      simp only [Option.some.injEq, Value.int.injEq, true_and]
      omega
    · exact .inl (List.eq_nil_of_length_eq_zero (by omega))
theorem trod_float {H : Type} {enc : TypeId × Value → H} {P : Program} {w : World} {base : Nat} {spare : Nat → Bool} {held : Bool} {fuel : Nat} {t : TypeId} {cs : List Value} {x : DataW H × List MemPlace} {k : FloatKind} (ht : P.underlying t = some (.float k)) (h : DataW.trod enc P w base spare held fuel t cs = some x) :
    ∃ b, cs = [.float k b] ∧ (Lit.float k b).wf = true := by
  cases fuel with
  | zero => simp [DataW.trod] at h
  | succ n =>
    unfold DataW.trod at h
    rw [ht] at h
    split at h <;> simp_all
/-- The cell of a slice that came in. -/
theorem trod_sl {H : Type} {enc : TypeId × Value → H} {W : World} {fuel : Nat} {t e : TypeId} {c : Value} {x : DataW H × List MemPlace} (ht : Tryz.prog.underlying t = some (.slice e)) (h : DataW.trod enc Tryz.prog W 0 (fun _ => true) true fuel t [c] = some x) :
    ∃ a n cap, c = .slice a n cap ∧ DataW.Trod enc Tryz.prog W 0 (fun _ => true) true t (.slice a n cap) x.1 x.2 := by
  rcases DataW.trod_slice ht h with ⟨hcs, hx⟩ | ⟨ad, l, c', elems, rest, n, _, hcs, _⟩
  · simp at hcs
    subst hcs
    exact ⟨_, _, _, rfl, fuel, h⟩
  · simp at hcs
    subst hcs
    exact ⟨_, _, _, rfl, fuel, h⟩
theorem w_all {H : Type} {P : Program} {e : TypeId} : ∀ {l : List (DataW H)} {i : Nat} {d : DataW H}, l[i]? = some d → ∀ n ∈ d.weights P e, n ∈ DataW.weightsAll P e l
  | x :: r, 0, d, h, n, hn => by
    simp only [List.getElem?_cons_zero, Option.some.injEq] at h
    subst h
    simp only [DataW.weightsAll, List.mem_append]
    exact .inl hn
  | x :: r, i + 1, d, h, n, hn => by
    simp only [List.getElem?_cons_succ] at h
    simp only [DataW.weightsAll, List.mem_append]
    exact .inr (w_all h n hn)
  | [], i, d, h, n, hn => by simp at h
theorem cellsOp : Tryz.prog.cellsOf 39 = 42 := by kernel_rfl
theorem cellsRead : Tryz.prog.cellsOf 79 = 4 := by kernel_rfl
theorem list11 {α : Type} {l : List α} (h : l.length = 11) : ∃ c0 c1 c2 c3 c4 c5 c6 c7 c8 c9 c10, l = [c0, c1, c2, c3, c4, c5, c6, c7, c8, c9, c10] := by
  match l, h with
  | [c0, c1, c2, c3, c4, c5, c6, c7, c8, c9, c10], _ => exact ⟨c0, c1, c2, c3, c4, c5, c6, c7, c8, c9, c10, rfl⟩
theorem list8 {α : Type} {l : List α} {m : Nat} (h : l.length = m + 8) : ∃ c0 c1 c2 c3 c4 c5 c6 c7 t, l = c0 :: c1 :: c2 :: c3 :: c4 :: c5 :: c6 :: c7 :: t ∧ t.length = m := by
  match l, h with
  | c0 :: c1 :: c2 :: c3 :: c4 :: c5 :: c6 :: c7 :: t, h => exact ⟨c0, c1, c2, c3, c4, c5, c6, c7, t, rfl, by simpa using h⟩
theorem list2 {α : Type} {l : List α} (h : l.length = 2) : ∃ c0 c1, l = [c0, c1] := by
  match l, h with
  | [c0, c1], _ => exact ⟨c0, c1, rfl⟩
theorem list4 {α : Type} {l : List α} (h : l.length = 4) : ∃ c0 c1 c2 c3, l = [c0, c1, c2, c3] := by
  match l, h with
  | [c0, c1, c2, c3], _ => exact ⟨c0, c1, c2, c3, rfl⟩
def opTypes : List TypeId := [3, 5, 4, 33, 2, 34, 9, 25, 36, 37, 26]
theorem i64_wf {z : Int} (h : (Lit.int .i64 z).wf = true) : -9223372036854775808 ≤ z ∧ z < 9223372036854775808 := by
  simp [Lit.wf, IntKind.min, IntKind.max, IntKind.signed, IntKind.bits] at h
  omega
theorem u64_wf {z : Int} (h : (Lit.int .u64 z).wf = true) : 0 ≤ z ∧ z < 18446744073709551616 := by
  simp [Lit.wf, IntKind.min, IntKind.max, IntKind.signed, IntKind.bits] at h
  omega
/-- The weights of a struct's fields are its own. -/
theorem w_op {H : Type} {parts : List (DataW H)} {j : Nat} {t : TypeId} {d : DataW H} (ht : opTypes[j]? = some t) (hd : parts[j]? = some d) : ∀ n ∈ d.weights Tryz.prog t, n ∈ (DataW.agg parts).weights Tryz.prog 39 := fun n hn => by
  have e : (DataW.agg parts).weights Tryz.prog 39 = DataW.weightsEach Tryz.prog opTypes parts := by
    rw [DataW.weights, Tryz.underlying39]
    rfl
  rw [e]
  exact DataW.weights_mem_each ht hd n hn
set_option maxHeartbeats 1000000 in
/-- The cells of an Op that came in. -/
theorem op_cells {H : Type} {enc : TypeId × Value → H} {W : World} {fuel : Nat} {cs : List Value} {y : DataW H × List MemPlace} (h : DataW.trod enc Tryz.prog W 0 (fun _ => true) true fuel 39 cs = some y)
    (hw : ∀ n ∈ y.1.weights Tryz.prog 39, n ≤ reachBytes) : ∃ (k : Int) (o : OpV), cs = (o.c k).toList ∧ OpOk W o := by
  obtain ⟨xs, n, _, hx, hcl, hlen, hfs⟩ := DataW.trod_struct Tryz.underlying39 h
  rw [cellsOp] at hcl
  have hlen : xs.length = 11 := hlen
  obtain ⟨y0, y1, y2, y3, y4, y5, y6, y7, y8, y9, y10, rfl⟩ := list11 hlen
  obtain ⟨c0, c1, c2, c3, c4, c5, c6, c7, t, rfl, ht⟩ := list8 (m := 34) (by omega)
  obtain ⟨c8, c9, hc89⟩ : ∃ c8 c9, t.drop 32 = [c8, c9] := list2 (by simp; omega)
  have tt : t = t.take 32 ++ [c8, c9] := by rw [← hc89, List.take_append_drop]
  have k1 : ∀ T, T ∈ opTypes → T ≠ 36 → Tryz.prog.cellsOf T = 1 := by
    intro T hT hne
    simp only [opTypes, List.mem_cons, List.not_mem_nil, or_false] at hT
    rcases hT with e | e | e | e | e | e | e | e | e | e | e <;> subst e <;> first | exact absurd rfl hne | kernel_rfl
  have t0 : DataW.trod enc Tryz.prog W 0 (fun _ => true) true n 3 [c0] = some y0 := by simpa [k1 3 (by decide) (by decide)] using hfs 0 _ rfl
  have t1 : DataW.trod enc Tryz.prog W 0 (fun _ => true) true n 5 [c1] = some y1 := by simpa [k1 5 (by decide) (by decide)] using hfs 1 _ rfl
  have t2 : DataW.trod enc Tryz.prog W 0 (fun _ => true) true n 4 [c2] = some y2 := by simpa [k1 4 (by decide) (by decide)] using hfs 2 _ rfl
  have t3 : DataW.trod enc Tryz.prog W 0 (fun _ => true) true n 33 [c3] = some y3 := by simpa [k1 33 (by decide) (by decide)] using hfs 3 _ rfl
  have t4 : DataW.trod enc Tryz.prog W 0 (fun _ => true) true n 2 [c4] = some y4 := by simpa [k1 2 (by decide) (by decide)] using hfs 4 _ rfl
  have t5 : DataW.trod enc Tryz.prog W 0 (fun _ => true) true n 34 [c5] = some y5 := by simpa [k1 34 (by decide) (by decide)] using hfs 5 _ rfl
  have t6 : DataW.trod enc Tryz.prog W 0 (fun _ => true) true n 9 [c6] = some y6 := by simpa [k1 9 (by decide) (by decide)] using hfs 6 _ rfl
  have t7 : DataW.trod enc Tryz.prog W 0 (fun _ => true) true n 25 [c7] = some y7 := by simpa [k1 25 (by decide) (by decide)] using hfs 7 _ rfl
  have t8 : DataW.trod enc Tryz.prog W 0 (fun _ => true) true n 36 (t.take 32) = some y8 := by
    have := hfs 8 _ rfl
    simpa [cellsH] using this
  have t9 : DataW.trod enc Tryz.prog W 0 (fun _ => true) true n 37 [c8] = some y9 := by
    have := hfs 9 _ rfl
    simpa [k1 37 (by decide) (by decide), hc89] using this
  have t10 : DataW.trod enc Tryz.prog W 0 (fun _ => true) true n 26 [c9] = some y10 := by
    have := hfs 10 _ rfl
    have e33 : (t.drop 33).take 1 = [c9] := by rw [show 33 = 32 + 1 from rfl, ← List.drop_drop, hc89]; rfl
    simpa [k1 26 (by decide) (by decide), e33] using this
  obtain ⟨z0, e0, _, w0⟩ := DataW.trod_int Tryz.underlying3 t0
  obtain ⟨z1, e1, _, w1⟩ := DataW.trod_int Tryz.underlying5 t1
  obtain ⟨z2, e2, _⟩ := DataW.trod_bool Tryz.underlying4 t2
  obtain ⟨z3, e3, _, w3⟩ := DataW.trod_int Tryz.underlying33 t3
  obtain ⟨z4, e4, _, w4⟩ := DataW.trod_int Tryz.underlying2 t4
  obtain ⟨z5, e5, w5⟩ := trod_float Tryz.underlying34 t5
  obtain ⟨z6, e6, x6, w6⟩ := DataW.trod_string Tryz.underlying9 t6
  obtain ⟨ra, rn, rc, e7, tr7⟩ := trod_sl Tryz.underlying25 t7
  obtain ⟨hh, hh32, e8⟩ := hash_cells t8
  obtain ⟨la, ln, lc, e9, tr9⟩ := trod_sl Tryz.underlying37 t9
  obtain ⟨z10, e10, _, w10⟩ := DataW.trod_int Tryz.underlying26 t10
  simp at e0 e1 e2 e3 e4 e5 e6 e10
  subst e0 e1 e2 e3 e4 e5 e6 e7 e9 e10
  rw [e8] at tt
  obtain ⟨R, hR, _, hRb, hRd⟩ := view_bytes tr7
  obtain ⟨L, hL, hL32, hLl, _, hLd⟩ := view_hashes tr9
  have b3 := u64_wf w3
  have b4 := i64_wf w4
  have b1 := bounds_u8 w1
  have b5 : z5 < 18446744073709551616 := by simpa [Lit.wf, FloatKind.format, Ieee.Format.width, Ieee.double] using w5
  rw [hx] at hw
  have r6 : z6.size ≤ reachBytes := by
    have := hw z6.data.toList.length (w_op (j := 6) (t := 9) (d := y6.1) rfl rfl _ (by rw [x6]; simp [DataW.weights]))
    simpa using this
  have r7 : rn ≤ reachBytes := by
    rcases hRd with ⟨_, h0⟩ | ⟨el, sp, hd, hel⟩
    · omega
    · have := hw ((el.length + sp.length) * Tryz.prog.bytesOf 5) (w_op (j := 7) (t := 25) (d := y7.1) rfl rfl _ (by rw [hd]; simp [DataW.weights, Tryz.underlying25]))
      rw [bytes5] at this
      omega
  have r9 : ln * 32 ≤ reachBytes := by
    rcases hLd with ⟨_, h0⟩ | ⟨el, sp, hd, hel⟩
    · omega
    · have := hw ((el.length + sp.length) * Tryz.prog.bytesOf 36) (w_op (j := 9) (t := 37) (d := y9.1) rfl rfl _ (by rw [hd]; simp [DataW.weights, Tryz.underlying37]))
      rw [bytesH] at this
      omega
  simp only [reachBytes] at r6 r7 r9
  refine ⟨z0, ⟨z1, z2, z3.toNat, z4, z5, z6, ra, rn, rc, hh, la, ln, lc, z10⟩, ?_, hh32, by show z3.toNat < _; omega, b4.1, b4.2, b5, b1.1, b1.2, r6, ⟨R, hR, r7, hRb⟩, ⟨L, hL32, hL, by show ln ≤ _; omega, hLl⟩⟩
  rw [tt]
  show _ = oL _ _ _ _ _ _ _ _ _ _ _
  simp only [oL]
  rw [show ((z3.toNat : Nat) : Int) = z3 by omega]
/-- What a slice of Ops that came in gives a walk. -/
theorem view_ops {H : Type} {enc : TypeId × Value → H} {W : World} {a : Option Addr} {len cap : Nat} {d : DataW H} {p : List MemPlace}
    (h : DataW.Trod enc Tryz.prog W 0 (fun _ => true) true 22 (.slice a len cap) d p) (hw : ∀ n ∈ d.weights Tryz.prog 22, n ≤ reachBytes) :
    ∃ l : List (Int × OpV), l.length = len ∧ len ≤ 140737488351232 ∧ Opl W a l ∧ (d = .nil ∧ len = 0 ∨ ∃ el sp, d = .slice el sp ∧ el.length = len) := by
  obtain ⟨fuel, hf⟩ := h
  rcases DataW.trod_slice Tryz.underlying22 hf with ⟨hcs', hx⟩ | ⟨ad, l, c, elems, rest, n, _, hcs', hx, _, hl, hm, hel, hcell, _, _⟩
  · simp [Value.cells] at hcs'
    obtain ⟨rfl, rfl, rfl⟩ := hcs'
    simp only [Prod.mk.injEq] at hx
    exact ⟨[], rfl, by omega, .inl rfl, .inl ⟨hx.1, rfl⟩⟩
  · simp [Value.cells] at hcs'
    obtain ⟨rfl, rfl, rfl⟩ := hcs'
    simp only [Prod.mk.injEq] at hx
    obtain ⟨b, off, spot⟩ := ad
    have hwd : ∀ n ∈ DataW.weightsAll Tryz.prog 39 (elems.map (·.1)), n ≤ reachBytes := fun n hn => hw n (by
      rw [hx.1]
      simp only [DataW.weights, Tryz.underlying22, List.mem_cons, List.mem_append]
      exact .inr (.inl hn))
    have hbd : len ≤ 140737488351232 := by
      have := hw ((elems.map (·.1)).length * Tryz.prog.bytesOf 39 + (rest.map (·.1)).length * Tryz.prog.bytesOf 39) (by
        rw [hx.1]
        simp only [DataW.weights, Tryz.underlying22, List.mem_cons, List.mem_append, Nat.add_mul]
        exact .inl trivial)
      have hb : Tryz.prog.bytesOf 39 = 144 := by kernel_rfl
      rw [hb] at this
      simp only [reachBytes, List.length_map] at this
      omega
    have raw : ∀ i, i < len → ∃ x : Int × OpV, OpOk W x.2 ∧ ∀ j u, (x.2.c x.1).toList[j]? = some u → W.cell? (((⟨b, off, spot⟩ : Addr).add (i * 42)).add j) = some u := fun i hi => by
      have hi2 := hcell i hi
      have hlt : i < elems.length := by omega
      rw [List.getElem?_eq_getElem hlt, cellsOp, Option.bind_eq_some_iff] at hi2
      obtain ⟨cs, hc1, hc2⟩ := hi2
      obtain ⟨k, o, rfl, ok⟩ := op_cells hc2 (fun n hn => hwd n (w_all (i := i) (d := elems[i].1) (by simp [hlt]) n hn))
      obtain ⟨_, _, hc3⟩ := World.cells?_some hc1
      refine ⟨(k, o), ok, fun j u hu => ?_⟩
      have hj := (List.getElem?_eq_some_iff.1 hu).1
      have hj : j < 42 := by rw [oc_len o k ok.hh] at hj; exact hj
      rw [hc3 j hj]
      exact hu
    have hspot : 0 < len → spot = none := fun h0 => by
      obtain ⟨x, ok, hc⟩ := raw 0 h0
      have q := hc 0 _ (List.getElem?_eq_getElem (by rw [oc_len x.2 x.1 ok.hh]; omega))
      have := World.cell?_spot q
      simpa [Addr.add] using this
    let F : Nat → Int × OpV := fun i => if h : i < len then Classical.choose (raw i h) else (0, ⟨0, false, 0, 0, 0, ⟨#[]⟩, none, 0, 0, [], none, 0, 0, 0⟩)
    have hF : ∀ i (h : i < len), F i = Classical.choose (raw i h) := fun i h => dif_pos h
    refine ⟨(List.range len).map F, by simp, hbd, ?_, .inr ⟨_, _, hx.1, by simp [hel]⟩⟩
    by_cases h0 : 0 < len
    · have hs := hspot h0
      subst hs
      refine .inr ⟨b, off, rfl, fun i k o hv => ?_⟩
      have hi : i < len := by
        have := (List.getElem?_eq_some_iff.1 hv).1
        simpa using this
      rw [List.getElem?_map, List.getElem?_range hi] at hv
      simp only [Option.map_some, Option.some.injEq] at hv
      rw [hF i hi] at hv
      have sp := Classical.choose_spec (raw i hi)
      rw [hv] at sp
      refine ⟨fun j u hu => ?_, sp.1⟩
      have := sp.2 j u hu
      rw [Addr.add_mid, Addr.add_mid] at this
      rwa [show off + 42 * i + j = off + i * 42 + j by omega]
    · obtain rfl : len = 0 := by omega
      exact .inl rfl
/-- What a slice of Reads that came in gives a walk. -/
theorem view_reads {H : Type} {enc : TypeId × Value → H} {W : World} {a : Option Addr} {len cap : Nat} {d : DataW H} {p : List MemPlace}
    (h : DataW.Trod enc Tryz.prog W 0 (fun _ => true) true 69 (.slice a len cap) d p) (hw : ∀ n ∈ d.weights Tryz.prog 69, n ≤ reachBytes) :
    ∃ l : List (Int × Int × Int × Int), l.length = len ∧ len ≤ 140737488351232 ∧ Rdl W a l ∧ (∀ k u m e, (k, u, m, e) ∈ l → 0 ≤ u ∧ u < 18446744073709551616 ∧ -9223372036854775808 ≤ m ∧ m < 9223372036854775808) ∧ (d = .nil ∧ len = 0 ∨ ∃ el sp, d = .slice el sp ∧ el.length = len) := by
  obtain ⟨fuel, hf⟩ := h
  rcases DataW.trod_slice Tryz.underlying69 hf with ⟨hcs', hx⟩ | ⟨ad, l, c, elems, rest, n, _, hcs', hx, _, hl, hm, hel, hcell, _, _⟩
  · simp [Value.cells] at hcs'
    obtain ⟨rfl, rfl, rfl⟩ := hcs'
    simp only [Prod.mk.injEq] at hx
    exact ⟨[], rfl, by omega, .inl rfl, fun _ _ _ _ h => (by cases h), .inl ⟨hx.1, rfl⟩⟩
  · simp [Value.cells] at hcs'
    obtain ⟨rfl, rfl, rfl⟩ := hcs'
    simp only [Prod.mk.injEq] at hx
    obtain ⟨b, off, spot⟩ := ad
    have hbd : len ≤ 140737488351232 := by
      have := hw ((elems.map (·.1)).length * Tryz.prog.bytesOf 79 + (rest.map (·.1)).length * Tryz.prog.bytesOf 79) (by
        rw [hx.1]
        simp only [DataW.weights, Tryz.underlying69, List.mem_cons, List.mem_append, Nat.add_mul]
        exact .inl trivial)
      have hb : Tryz.prog.bytesOf 79 = 32 := by kernel_rfl
      rw [hb] at this
      simp only [reachBytes, List.length_map] at this
      omega
    have raw : ∀ i, i < len → ∃ x : Int × Int × Int × Int, (0 ≤ x.2.1 ∧ x.2.1 < 18446744073709551616 ∧ -9223372036854775808 ≤ x.2.2.1 ∧ x.2.2.1 < 9223372036854775808) ∧ ∀ j u, ([.int .i64 x.1, .int .u64 x.2.1, .int .i64 x.2.2.1, .int .i64 x.2.2.2] : List Value)[j]? = some u → W.cell? (((⟨b, off, spot⟩ : Addr).add (i * 4)).add j) = some u := fun i hi => by
      have hi2 := hcell i hi
      have hlt : i < elems.length := by omega
      rw [List.getElem?_eq_getElem hlt, cellsRead, Option.bind_eq_some_iff] at hi2
      obtain ⟨cs, hc1, hc2⟩ := hi2
      obtain ⟨xs, n', _, _, hcl, hlen, hfs⟩ := DataW.trod_struct Tryz.underlying79 hc2
      rw [cellsRead] at hcl
      have hlen : xs.length = 4 := hlen
      obtain ⟨c0, c1, c2, c3, rfl⟩ := list4 hcl
      obtain ⟨y0, y1, y2, y3, rfl⟩ := list4 hlen
      have q0 : Tryz.prog.cellsOf 3 = 1 := by kernel_rfl
      have q1 : Tryz.prog.cellsOf 33 = 1 := by kernel_rfl
      have q3 : Tryz.prog.cellsOf 26 = 1 := by kernel_rfl
      have t0 : DataW.trod enc Tryz.prog W 0 (fun _ => true) true n' 3 [c0] = some y0 := by simpa [q0] using hfs 0 _ rfl
      have t1 : DataW.trod enc Tryz.prog W 0 (fun _ => true) true n' 33 [c1] = some y1 := by simpa [q1] using hfs 1 _ rfl
      have t2 : DataW.trod enc Tryz.prog W 0 (fun _ => true) true n' 3 [c2] = some y2 := by simpa [q0] using hfs 2 _ rfl
      have t3 : DataW.trod enc Tryz.prog W 0 (fun _ => true) true n' 26 [c3] = some y3 := by simpa [q3] using hfs 3 _ rfl
      obtain ⟨z0, e0, _, _⟩ := DataW.trod_int Tryz.underlying3 t0
      obtain ⟨z1, e1, _, w1⟩ := DataW.trod_int Tryz.underlying33 t1
      obtain ⟨z2, e2, _, w2⟩ := DataW.trod_int Tryz.underlying3 t2
      obtain ⟨z3, e3, _, _⟩ := DataW.trod_int Tryz.underlying26 t3
      simp at e0 e1 e2 e3
      subst e0 e1 e2 e3
      have b1 := u64_wf w1
      have b2 := i64_wf w2
      obtain ⟨_, _, hc3⟩ := World.cells?_some hc1
      refine ⟨(z0, z1, z2, z3), ⟨b1.1, b1.2, b2.1, b2.2⟩, fun j u hu => ?_⟩
      have hj := (List.getElem?_eq_some_iff.1 hu).1
      have hj : j < 4 := by simpa using hj
      rw [hc3 j hj]
      exact hu
    have hspot : 0 < len → spot = none := fun h0 => by
      obtain ⟨x, _, hc⟩ := raw 0 h0
      have q := hc 0 _ rfl
      have := World.cell?_spot q
      simpa [Addr.add] using this
    let F : Nat → Int × Int × Int × Int := fun i => if h : i < len then Classical.choose (raw i h) else (0, 0, 0, 0)
    have hF : ∀ i (h : i < len), F i = Classical.choose (raw i h) := fun i h => dif_pos h
    refine ⟨(List.range len).map F, by simp, hbd, ?_, fun k u m e hv => ?_, .inr ⟨_, _, hx.1, by simp [hel]⟩⟩
    · by_cases h0 : 0 < len
      · have hs := hspot h0
        subst hs
        refine .inr ⟨b, off, rfl, fun i k u m e hv => ?_⟩
        have hi : i < len := by
          have := (List.getElem?_eq_some_iff.1 hv).1
          simpa using this
        rw [List.getElem?_map, List.getElem?_range hi] at hv
        simp only [Option.map_some, Option.some.injEq] at hv
        rw [hF i hi] at hv
        have sp := (Classical.choose_spec (raw i hi)).2
        rw [hv] at sp
        intro j v hu
        have := sp j v hu
        rw [Addr.add_mid, Addr.add_mid] at this
        rwa [show off + 4 * i + j = off + i * 4 + j by omega]
      · obtain rfl : len = 0 := by omega
        exact .inl rfl
    · rw [List.mem_map] at hv
      obtain ⟨i, hi, hv⟩ := hv
      rw [List.mem_range] at hi
      rw [hF i hi] at hv
      have sp := (Classical.choose_spec (raw i hi)).1
      rw [hv] at sp
      exact sp
end Go.Proofs.YtgiblfhajiakgaaGreatDoor

namespace Go.Proofs.YtgiblfhajiakgaaGreatDoor
open Go.RowKit
set_option linter.unusedVariables false
set_option linter.unusedSimpArgs false

theorem byC_bs (l : List UInt8) : K.byC l = (bs l).toList := by simp [K.byC, bs]
theorem resHashOf (tmps : Array Value) (w : World) (g : Nat) (t : TypeId) (l : List UInt8) (hl : l.length = 32) (fr : Nat × Nat) (hp : tmps.getD 2 undef = .pointer (some ⟨g, 0, none⟩)) (hg : w.heap[g]? = some (.cells (bs l) t fr)) :
    (results Tryz.f122 tmps).run Tryz.prog w = .ok (.agg (bs l)) w :=
  results_cell_row Tryz.results122 tmps w g t (bs l) fr _ hp hg Tryz.underlying36 rfl (by rw [bs_size, hl]; exact hsH)
theorem splice_all (x : List UInt8) (h : x.length = 32) : ((bs z32).toList.take 0 ++ (K.byC x ++ (bs z32).toList.drop (0 + (K.byC x).length))).toArray = bs x := by
  have e : (bs z32).toList.length = 32 := by rw [Array.length_toList, bs_size]; rfl
  rw [K.byC_len, h, List.drop_of_length_le (by omega), byC_bs]
  simp

set_option maxRecDepth 100000 in
set_option maxHeartbeats 1000000 in
theorem hashOf_any (b off n cap : Nat) (l : List UInt8) (w : World) (hl : l.length = n) (hn : 32 ≤ n) (hb : ∀ j, j < l.length → w.cell? ⟨b, off + j, none⟩ = some (.int .u8 (K.at8 l j))) (hbl : b < w.heap.size) :
    Calls Tryz.prog 122 #[.slice (some ⟨b, off, none⟩) n cap] w fun e w' => e = .returned (.agg (bs (l.take 32))) ∧ Below w.heap.size w w' := by
  have hzs : (bs z32).size = 32 := by rw [bs_size]; rfl
  obtain ⟨x, hx⟩ : ∃ x, x = l.take 32 := ⟨_, rfl⟩
  have ht : x.length = 32 := by rw [hx]; simp; omega
  rw [← hx]
  have HL : Hid ((K.byC x).length = Nat.min n 32) := (by rw [K.byC_len, ht]; exact (Nat.min_eq_right hn).symm : (K.byC x).length = Nat.min n 32)
  have bel : Below w.heap.size w ((w.alloc (.cells (bs z32) 36)).alloc (.cells (bs z32) 36)) := ((Below.refl _ _).alloc (Nat.le_refl _) _).alloc (by simp) _
  have g1 : ((w.alloc (.cells (bs z32) 36)).alloc (.cells (bs z32) 36)).heap[w.heap.size + 1]? = some (.cells (bs z32) 36 (0, 0)) := heap_alloc2_new _ _ _
  have g0 : ((w.alloc (.cells (bs z32) 36)).alloc (.cells (bs z32) 36)).heap[w.heap.size]? = some (.cells (bs z32) 36 (0, 0)) := heap_alloc2_old _ _ _
  have hsrc : Hid (∀ j v, (K.byC x)[j]? = some v → ((w.alloc (.cells (bs z32) 36)).alloc (.cells (bs z32) 36)).cell? ((⟨b, off, none⟩ : Addr).add j) = some v) := fun j v hj => by
    obtain ⟨h1, rfl⟩ := K.byC_get _ j v hj
    rw [Addr.add_mid, World.cell?_of_block (w := w) (bel.block b hbl), hb j (by omega), hx]
    congr 2
    unfold K.at8
    simp [List.getElem?_take, show j < 32 by omega]
  have hfit : Hid (0 + (K.byC x).length ≤ (bs z32).size) := (by rw [hzs, K.byC_len]; omega : 0 + (K.byC x).length ≤ (bs z32).size)
  have SP : Hid (((bs z32).toList.take 0 ++ (K.byC x ++ (bs z32).toList.drop (0 + (K.byC x).length))).toArray = bs x) := splice_all x ht
  have G0 : Hid ((((w.alloc (.cells (bs z32) 36)).alloc (.cells (bs z32) 36)).setRow (w.heap.size + 1) (bs x)).heap[w.heap.size]? = some (.cells (bs z32) 36 (0, 0))) := by show _ = _; rw [setRow_other _ _ _ _ (by omega)]; exact g0
  have G1 : Hid ((((w.alloc (.cells (bs z32) 36)).alloc (.cells (bs z32) 36)).setRow (w.heap.size + 1) (bs x)).heap[w.heap.size + 1]? = some (.cells (bs x) 36 (0, 0))) := setRow_heap _ _ _ _ _ _ g1
  have BB : Hid (Below w.heap.size w (((w.alloc (.cells (bs z32) 36)).alloc (.cells (bs z32) 36)).setRow (w.heap.size + 1) (bs x))) := bel.trans (below_setRow _ _ _ _ (by omega))
  clear hx hl hb
  go_enter Tryz.func122, Tryz.ntmps122
  go_wp2_with (first
    | (refine wpList_alloc_row rfl 36 rfl (bs z32) (hzH _) ?_)
    | (refine wpList_copy_own rfl (.tmp 4) (.tmp 5) 25 25 rfl 5 Tryz.underlying25 hsz5 (w.heap.size + 1) 0 32 32 ⟨b, off, none⟩ n cap rfl rfl (bs z32) 36 g1 (K.byC x) HL.out hsrc.out hfit.out (K.byC_one _) ?_; rw [SP.out])
    | (refine wpList_load_arr rfl 36 (.tmp 3) rfl (w.heap.size + 1) rfl 36 (bs x) (0, 0) _ G1.out Tryz.underlying36 rfl (by rw [bs_size, ht]; exact hsH) ?_)
    | (refine wpList_store_row rfl 36 (.tmp 2) (.tmp 7) rfl w.heap.size (bs x) rfl rfl 36 (bs z32) G0.out (by rw [bs_size, ht]; exact hsH) (by rw [hzs, bs_size, ht]) (bs_one _) ?_)
    | fail)
  exact bodyPost_ret (resHashOf _ _ w.heap.size 36 x ht (0, 0) rfl (setRow_heap _ _ _ _ _ _ G0.out)) rfl ⟨rfl, BB.out.trans (below_setRow _ _ _ _ (Nat.le_refl _))⟩

variable {T : TypeId} {r cap : Nat} {a : Option Addr} {L : List UInt8} {s : K.St}
set_option maxRecDepth 100000 in
set_option maxHeartbeats 2000000 in
theorem counted32 (most : Nat) (hm : most ≤ 9223372036854775807) (w : World) (h : K.RD w T r a cap L s) (hb : s.bad = 0) (v sz : Nat) (pl : Int) (hN : K.num L s.k = ⟨v, sz, 0, pl⟩) (hv : v ≤ most) (hlen : s.k + sz + v * 32 ≤ L.length) :
    Calls Tryz.prog 107 #[.pointer (some ⟨r, 0, none⟩), .int .i64 (most : Int), .int .i64 32] w fun e w' => e = .returned (.tuple #[.slice (K.from23 a cap (s.k + sz)) (v * 32) (cap - (s.k + sz)), .int .i64 (sz : Int), .bool true]) ∧ K.On w w' T r a cap L s := by
  have HN : Hid (Calls Tryz.prog 105 #[.pointer (some ⟨r, 0, none⟩)] w fun e w' => e = .returned (.tuple #[.int .u64 (v : Int), .int .i64 (sz : Int), .bool true]) ∧ K.On w w' T r a cap L s) := (K.number_any w h hb).mono fun e w' hx => by
    rw [hN, K.St.fl_ok] at hx
    exact hx
  have hf := h.few
  have hr := h.room
  have HL : Hid (∀ wx, K.On w wx T r a cap L s → Calls Tryz.prog 128 #[.pointer (some ⟨r, 0, none⟩)] wx fun e w' => e = .returned (.int .i64 ((L.length : Int) - (s.k : Int))) ∧ ∃ m, w' = wx.drewN m) := fun (wx : World) (hx : K.On w wx T r a cap L s) => K.cleft_any wx hx.1
  have s1 := K.sl_mid a L.length cap (s.k + sz) (s.k + sz + v * 32) ((s.k : Int) + (sz : Int)) ((s.k : Int) + (sz : Int) + (v : Int) * 32) (by omega) (by omega) (by omega) (by omega)
  have s2 := K.sl_mid' a L.length cap (s.k + sz) (s.k + sz + v * 32) ((s.k : Int) + (sz : Int)) ((s.k : Int) + (sz : Int) + (v : Int) * 32) (by omega) (by omega) (by omega) (by omega)
  rw [Nat.add_sub_cancel_left] at s1 s2
  clear h hN
  generalize K.from23 a cap (s.k + sz) = a4 at *
  generalize cap - (s.k + sz) = c4 at *
  obtain ⟨d, hd⟩ : ∃ d, d = (L.length - (s.k + sz)) / 32 := ⟨_, rfl⟩
  have tq : Int.tdiv ((L.length : Int) - (s.k : Int) - (sz : Int)) 32 = (d : Int) := by rw [Int.tdiv_eq_ediv_of_nonneg (by omega)]; omega
  have hvd : v ≤ d := by omega
  have hdL : d ≤ L.length := by omega
  have g3 : ¬ (d : Int) < (v : Int) := by omega
  clear hd
  generalize v * 32 = v32 at *
  have g1 : ¬ (most : Int) < 0 := by omega
  have g2 : ¬ (most : Int) < (v : Int) := by omega
  go_enter Tryz.func107, Tryz.ntmps107
  go_wp2_with fail
  refine HN.out.mono ?_
  rintro e w1 ⟨rfl, ho⟩
  have HON : Hid (K.On w w1 T r a cap L s) := ho
  have c0 := ho.1.c0
  have c1 := ho.1.c1
  clear ho
  go_wp2_with fail
  refine (HL.out w1 HON.out).mono ?_
  rintro e w2 ⟨rfl, m, rfl⟩
  have HON2 : Hid (K.On w (w1.drewN m) T r a cap L s) := HON.out.drew m
  go_wp2
  try (go_quiet (fail); go_wp2)
  go_ret3
  exact ⟨rfl, HON2.out⟩
end Go.Proofs.YtgiblfhajiakgaaGreatDoor

namespace Go.Proofs.YtgiblfhajiakgaaGreatDoor
open Go.RowKit
set_option linter.unusedVariables false
set_option linter.unusedSimpArgs false

variable {T : TypeId} {r cap : Nat} {a : Option Addr}
theorem drop_past (A B : List UInt8) (k : Nat) : (A ++ B).drop (A.length + k) = B.drop k := by
  rw [← List.drop_drop, List.drop_left]
/-- What stands in the k-th place of a list of hashes. -/
theorem cat_drop {D : List (List UInt8)} (hD : All32 D) (k : Nat) (x : List UInt8) (h : D[k]? = some x) : ((cat D).drop (k * 32)).take 32 = x := by
  induction D generalizing k with
  | nil => simp at h
  | cons y t ih =>
    have hy := hD y (by simp)
    cases k with
    | zero =>
      simp at h
      subst h
      simp [cat, List.take_append, hy]
    | succ k =>
      have := ih (fun z hz => hD z (List.mem_cons_of_mem _ hz)) k (by simpa using h)
      rw [← this]
      simp only [cat, List.flatten_cons]
      rw [show (k + 1) * 32 = y.length + k * 32 by omega, drop_past]

theorem on_below {w0 wr w2 : World} {B : Nat} {L : List UInt8} {s0 s : K.St} (h0 : K.RD w0 T r a cap L s0) (h : K.On w0 wr T r a cap L s) (hb : Below B wr w2) (hB : w0.heap.size ≤ B) : K.On w0 w2 T r a cap L s := by
  have hr := h0.lt
  have hbyt : K.Byt w2 a L := by
    rcases h0.byt with e | ⟨b, off, rfl, hc⟩
    · exact .inl e
    · rcases h.1.byt with e | ⟨b', off', e, hc'⟩
      · exact .inl e
      · cases e
        refine .inr ⟨b, off, rfl, fun j hj => ?_⟩
        have hlt : b < w0.heap.size := block_lt_of_cell (hc j hj)
        exact (World.cell?_of_block (hb.block b (by omega))).trans (hc' j hj)
  exact ⟨⟨by rw [hb.block r (by omega)]; exact h.1.row, h.1.room, hbyt, h.1.plain, h.1.at_le, h.1.few⟩, ⟨hb.os.trans h.2.os, hb.tape.trans h.2.tape, hb.output.trans h.2.output, Nat.le_trans h.2.size hb.size, fun i hi hne => (hb.block i (by omega)).trans (h.2.block i hi hne)⟩⟩

set_option maxRecDepth 100000 in
set_option maxHeartbeats 2000000 in
theorem rhashes_any (most : Nat) (hm : most ≤ 4398046510976) (D : List (List UInt8)) (hD : All32 D) (hr : SRise D) (hDm : D.length ≤ most) (w : World) (h : K.RD w 108 r a cap (hw D) ⟨0, 0, 0⟩) :
    Calls Tryz.prog 80 #[.pointer (some ⟨r, 0, none⟩), .int .i64 (most : Int)] w fun e w' => ∃ q, e = .returned (.slice (some ⟨q, 0, none⟩) D.length D.length) ∧ w.heap.size ≤ q ∧ q < w'.heap.size ∧ Hs w' q 0 D ∧ w'.there q 0 (32 * D.length) ∧ K.On w w' 108 r a cap (hw D) ⟨(hw D).length, 0, 0⟩ := by
  have HNum : Hid (K.num (hw D) 0 = ⟨D.length, (K.vint D.length).length, 0, (hw D).length⟩) := K.num_front D.length (by omega) (cat D)
  have HLen : Hid ((hw D).length = (K.vint D.length).length + D.length * 32) := (by unfold hw; rw [List.length_append, cat_len hD]; omega : (hw D).length = (K.vint D.length).length + D.length * 32)
  have HB : Hid (∀ k x, D[k]? = some x → (((hw D).drop ((K.vint D.length).length + k * 32)).take 32) = x) := fun k x hx => by
    unfold hw
    rw [drop_past]
    exact cat_drop hD k x hx
  obtain ⟨n, hn⟩ : ∃ n, n = D.length := ⟨_, rfl⟩
  obtain ⟨sz, hsz⟩ : ∃ sz, sz = (K.vint D.length).length := ⟨_, rfl⟩
  rw [← hsz] at HNum HLen HB
  rw [← hn] at HNum HLen hDm ⊢
  have HN : Hid (n = D.length) := hn
  clear hn hsz
  have hfw := h.few
  rw [HLen.out] at hfw
  have HC : Hid (Calls Tryz.prog 107 #[.pointer (some ⟨r, 0, none⟩), .int .i64 (most : Int), .int .i64 32] w fun e w' => e = .returned (.tuple #[.slice (K.from23 a cap sz) (n * 32) (cap - sz), .int .i64 (sz : Int), .bool true]) ∧ K.On w w' 108 r a cap (hw D) ⟨0, 0, 0⟩) := (by
    have := counted32 most (by omega) w h rfl n sz _ HNum.out hDm (by rw [HLen.out]; simp)
    simp only [Nat.zero_add] at this
    exact this)
  have HSt : Hid (Calls Tryz.prog 104 #[.pointer (some ⟨r, 0, none⟩)] w fun e w' => e = .returned (.bool false) ∧ w' = w) := (by
    have := K.stopped_any w h
    rw [show decide ((⟨0, 0, 0⟩ : K.St).bad ≠ 0) = false by simp] at this
    exact this)
  have HR : Hid (K.RD w 108 r a cap (hw D) ⟨0, 0, 0⟩) := h
  clear h
  have hmk := make_hashes n (by omega)
  have tq : Int.tdiv (((n * 32 : Nat) : Int)) 32 = (n : Int) := by rw [Int.tdiv_eq_ediv_of_nonneg (by omega)]; omega
  go_enter Tryz.func80, Tryz.ntmps80
  go_wp2_with fail
  refine HSt.out.mono ?_
  rintro e w0 ⟨rfl, rfl⟩
  go_wp2_with fail
  refine HC.out.mono ?_
  rintro e w1 ⟨rfl, on1⟩
  have HO1 : Hid (K.On w0 w1 108 r a cap (hw D) ⟨0, 0, 0⟩) := on1
  clear on1 HC HSt
  have HLN : Hid (n * 32 = n * 32) := rfl
  obtain ⟨n32, hn32⟩ : ∃ n32, n32 = n * 32 := ⟨_, rfl⟩
  rw [← hn32] at HLen hfw tq ⊢
  have HN32 : Hid (n32 = n * 32) := hn32
  clear hn32 HLN
  have HS0 : Hid (Hs (w1.alloc (.cells (madeCells (bs z32) (n * 32)) 36)) w1.heap.size 0 (part D n 0)) := (by rw [part_zero]; exact hs_made w1 n 36 : Hs (w1.alloc (.cells (madeCells (bs z32) (n * 32)) 36)) w1.heap.size 0 (part D n 0))
  have HT0 : Hid ((w1.alloc (.cells (madeCells (bs z32) (n * 32)) 36)).there w1.heap.size 0 (32 * n)) := there_made w1 n 36
  have HA0 : Hid (K.On w0 (w1.alloc (.cells (madeCells (bs z32) (n * 32)) 36)) 108 r a cap (hw D) ⟨0, 0, 0⟩) := on_below HR.out HO1.out ((Below.refl _ _).alloc (Nat.le_refl _) _) HO1.out.2.size
  have hq0 : w0.heap.size ≤ w1.heap.size := HO1.out.2.size
  go_wp2
  go_loopw [29] (fun i wr => ∃ k : Nat, k ≤ n ∧ i = .int .i64 k ∧ Hid (Hs wr w1.heap.size 0 (part D n k)) ∧ Hid (wr.there w1.heap.size 0 (32 * n)) ∧ Hid (K.On w0 wr 108 r a cap (hw D) ⟨0, 0, 0⟩) ∧ w1.heap.size < wr.heap.size) (fun i _ => n - (intOf i).toNat)
  case atStart => exact ⟨0, by omega, rfl, HS0, HT0, HA0, by simp⟩
  case round =>
    obtain ⟨k, hk, rfl, HSr, HTr, HOr, hqr⟩ := hrel
    by_cases hkn : k < n
    · have h32 := HN32.out
      have hkD : k < D.length := by rw [← HN.out]; exact hkn
      obtain ⟨x, hx⟩ : ∃ x, D[k]? = some x := ⟨_, List.getElem?_eq_getElem hkD⟩
      have hx32 := hD.get hx
      have HCut : Hid ((((hw D).drop (sz + k * 32)).take 32) = x) := HB.out k x hx
      obtain ⟨b, off, rfl, hcell⟩ : ∃ b off, a = some ⟨b, off, none⟩ ∧ ∀ j, j < (hw D).length → wr.cell? ⟨b, off + j, none⟩ = some (.int .u8 (K.at8 (hw D) j)) := by
        rcases HOr.out.1.byt with e | h
        · have := HLen.out; rw [e] at this; simp at this; omega
        · exact h
      have hroom := HOr.out.1.room
      rw [HLen.out] at hroom
      have e1 : K.from23 (K.from23 (some ⟨b, off, none⟩) cap sz) (cap - sz) (k * 32) = some ⟨b, off + sz + k * 32, none⟩ := by
        unfold K.from23
        rw [if_neg (by omega), if_neg (by omega)]
        simp [Addr.add_mid]
      have sl1 := fun wx => K.sl_from (K.from23 (some ⟨b, off, none⟩) cap sz) n32 (cap - sz) (k * 32) ((k : Int) * 32) (by omega) (by omega) wx
      have sl2 := fun wx => K.sl_from' (K.from23 (some ⟨b, off, none⟩) cap sz) n32 (cap - sz) (k * 32) ((k : Int) * 32) (by omega) (by omega) wx
      rw [e1] at sl1 sl2
      have HH : Hid (Calls Tryz.prog 122 #[.slice (some ⟨b, off + sz + k * 32, none⟩) (n32 - k * 32) (cap - sz - k * 32)] wr fun e w' => e = .returned (.agg (bs x)) ∧ Below wr.heap.size wr w') := (by
        have h1 : ((hw D).drop (sz + k * 32)).length = n32 - k * 32 := by rw [List.length_drop, HLen.out]; omega
        have hbl : b < wr.heap.size := block_lt_of_cell (hcell 0 (by rw [HLen.out]; omega))
        have := hashOf_any b (off + sz + k * 32) (n32 - k * 32) (cap - sz - k * 32) ((hw D).drop (sz + k * 32)) wr h1 (by omega) (fun j hj => by
          rw [show off + sz + k * 32 + j = off + (sz + k * 32 + j) by omega, hcell _ (by rw [List.length_drop] at hj; omega)]
          unfold K.at8
          simp) hbl
        rw [HCut.out] at this
        exact this)
      have ix1 := fun wx => indexH w1.heap.size 0 n n k wx hkn
      simp only [Nat.zero_add] at ix1
      clear HCut hcell e1 hroom
      generalize off + sz + k * 32 = off4 at *
      generalize n32 - k * 32 = n4 at *
      generalize cap - sz - k * 32 = cap4 at *
      generalize hq : w1.heap.size = q at *
      have hzr : Hid (w0.heap.size ≤ q) := hq0
      clear h32 hq
      go_wp2_with fail
      refine HH.out.mono ?_
      rintro e w2 ⟨rfl, bl2⟩
      have HT2 : Hid (w2.there q 0 (32 * n)) := there_below HTr.out bl2 hqr
      have HTH : Hid (w2.there q (32 * k) 32) := (by have := there_part (m := 32) (i := 32 * k) HT2.out (by omega); rwa [Nat.zero_add] at this : w2.there q (32 * k) 32)
      have hPL : D.length = n := HN.out.symm
      have HX : Hid (Hs (w2.setCells q (32 * k) (hcs x)) q 0 (part D n (k + 1))) := (by
        have := Hs.set (HSr.out.below bl2 hqr) (all32_part hD _ _) k x hx32 (by rw [part_len _ _ _ (by omega) hPL]; omega) (there_part HT2.out (by omega))
        rw [Nat.zero_add] at this
        rwa [part_set _ _ _ (by omega) hPL x hx] at this : Hs (w2.setCells q (32 * k) (hcs x)) q 0 (part D n (k + 1)))
      have HT3 : Hid ((w2.setCells q (32 * k) (hcs x)).there q 0 (32 * n)) := World.there_setCells HT2.out _ _ _
      have HO3 : Hid (K.On w0 (w2.setCells q (32 * k) (hcs x)) 108 r (some ⟨b, off, none⟩) cap (hw D) ⟨0, 0, 0⟩) := on_below HR.out (on_below HR.out HOr.out bl2 HOr.out.2.size) (below_setCells (Below.refl _ _) (Nat.le_refl q) _ _) hzr.out
      have hq3 : q < (w2.setCells q (32 * k) (hcs x)).heap.size := by rw [size_setCells]; have := bl2.size; omega
      clear hPL bl2 HT2 HSr HTr HOr hqr HH sl1 sl2
      go_wp2_with (first
        | (refine wpList_store_mid rfl 36 _ _ rfl q (32 * k) (bs x) rfl rfl (by rw [bs_size, hx32]; exact HTH.out) (by rw [bs_size, hx32]; exact hsH) (bs_one _) ?_)
        | fail)
      change Code.wp _ _ _ _ (w2.setCells q (32 * k) (hcs x))
      simp only [Act.put]
      generalize w2.setCells q (32 * k) (hcs x) = w3 at *
      clear HTH
      by_cases hk0 : k = 0
      · have gk : decide (0 < k) = false := by simp; omega
        clear hk0
        have hne : Nonempty (ExtT w3) := ExtT.some w3
        refine wp_region_ext (by kernel_rfl) (by kernel_rfl) ?_
        repeat (go_big_quiet_step (fail))
        refine wpQuiet_nil ?_
        rintro w4 ⟨⟨_, bl4⟩, rfl⟩
        have A1 : Hid (Hs w4 q 0 (part D n (k + 1))) := HX.out.below bl4 hq3
        have A2 : Hid (w4.there q 0 (32 * n)) := there_below HT3.out bl4 hq3
        have A3 : Hid (K.On w0 w4 108 r (some ⟨b, off, none⟩) cap (hw D) ⟨0, 0, 0⟩) := on_below HR.out HO3.out bl4 HO3.out.2.size
        have A4 : q < w4.heap.size := by have := bl4.size; omega
        clear bl4 hne HX HT3 HO3 hq3 gk
        go_wp2
        exact ⟨⟨k + 1, by omega, by go_num, A1, A2, A3, A4⟩, by simp [intOf]; omega⟩
      · obtain ⟨p, hp⟩ : ∃ p, D[k - 1]? = some p := ⟨_, List.getElem?_eq_getElem (by omega)⟩
        have hp32 := hD.get hp
        have hcl : cmpL p x < 0 := hr (k - 1) k p x hp hx (by omega)
        have HCm : Hid (∀ wx, Calls Tryz.prog 116 #[.agg (bs p), .agg (bs x)] wx fun e w' => e = .returned (.int .i64 (cmpL p x)) ∧ Below wx.heap.size wx w') := fun wx => cmp_any p x hp32 hx32 wx
        have hpt : ∀ i y, i < k + 1 → D[i]? = some y → (part D n (k + 1))[i]? = some y := fun i y hi hy => by
          unfold part
          rw [List.getElem?_append_left (by rw [List.length_take]; have := (List.getElem?_eq_some_iff.1 hy).1; omega), List.getElem?_take, if_pos hi]
          exact hy
        have S1 : Hid (w3.rangeAt q (32 * (k - 1)) (hcs p)) := (by have := HX.out (k - 1) p (hpt _ _ (by omega) hp); rwa [Nat.zero_add] at this : w3.rangeAt q (32 * (k - 1)) (hcs p))
        have S2 : Hid (w3.rangeAt q (32 * k) (hcs x)) := (by have := HX.out k x (hpt _ _ (by omega) hx); rwa [Nat.zero_add] at this : w3.rangeAt q (32 * k) (hcs x))
        have ix2 : ∀ wx, (Instr.indexAt 37 (.slice (some ⟨q, 0, none⟩) n n) (.int .i64 ((k : Int) - 1))).run Tryz.prog wx = .ok (.pointer (some ⟨q, 32 * (k - 1), none⟩)) wx := fun wx => (by
          have := indexH q 0 n n (k - 1) wx (by omega)
          rwa [Nat.zero_add, show ((k - 1 : Nat) : Int) = (k : Int) - 1 by omega] at this)
        have wk : IntKind.i64.wrap ((k : Int) - 1) = (k : Int) - 1 := by simp only [IntKind.wrap, IntKind.bits, IntKind.signed]; simp; omega
        have wk2 : wrap64 ((k : Int) - 1) = (k : Int) - 1 := (by unfold wrap64; omega)
        generalize cmpL p x = c at *
        have gc : ¬ (0 : Int) ≤ c := by omega
        have gk : 0 < k := by omega
        clear hpt hx hp hcl hk0
        have hne : Nonempty (ExtT w3) := ExtT.some w3
        refine wp_region_ext (by kernel_rfl) (by kernel_rfl) ?_
        repeat (first
          | (go_big_quiet_want; refine quiet_load_mid 36 _ rfl q (32 * (k - 1)) rfl (bs p) _ (by rintro _ ⟨e, rfl⟩; exact e.range S1.out (hcs_pos hp32)) Tryz.underlying36 rfl (sizeH hp32) ?_; simp only [Act.put, List.setIfInBounds_toArray, List.set_cons_zero, List.set_cons_succ]; go_big_quiet_on)
          | (go_big_quiet_want; refine quiet_load_mid 36 _ rfl q (32 * k) rfl (bs x) _ (by rintro _ ⟨e, rfl⟩; exact e.range S2.out (hcs_pos hx32)) Tryz.underlying36 rfl (sizeH hx32) ?_; simp only [Act.put, List.setIfInBounds_toArray, List.set_cons_zero, List.set_cons_succ]; go_big_quiet_on)
          | go_big_quiet_step (first | (go_at_call 116; exact ext_of (HCm.out _)) | fail))
        refine wpQuiet_nil ?_
        rintro w4 ⟨⟨_, bl4⟩, rfl⟩
        have A1 : Hid (Hs w4 q 0 (part D n (k + 1))) := HX.out.below bl4 hq3
        have A2 : Hid (w4.there q 0 (32 * n)) := there_below HT3.out bl4 hq3
        have A3 : Hid (K.On w0 w4 108 r (some ⟨b, off, none⟩) cap (hw D) ⟨0, 0, 0⟩) := on_below HR.out HO3.out bl4 HO3.out.2.size
        have A4 : q < w4.heap.size := by have := bl4.size; omega
        clear bl4 hne HX HT3 HO3 hq3 wk wk2 S1 S2 HCm ix2
        go_wp2
        exact ⟨⟨k + 1, by omega, by go_num, A1, A2, A3, A4⟩, by simp [intOf]; omega⟩
    · obtain rfl : k = n := by omega
      have c1 := HOr.out.1.c1
      have fz := HOr.out.1.fz 1
      have hfew : (sz + n32 : Nat) ≤ 140737488351232 := hfw
      have HE : Hid (Hs wr w1.heap.size 0 D) := (by have := HSr.out; rwa [part_all D k HN.out.symm] at this : Hs wr w1.heap.size 0 D)
      have HO9 : Hid (K.On w0 (wr.setCell ⟨r, 1, none⟩ (.int .i64 ((sz : Int) + (n32 : Int)))) 108 r a cap (hw D) ⟨(hw D).length, 0, 0⟩) := HOr.out.set1 (hw D).length _ (by rw [HLen.out]; omega) (Nat.le_refl _)
      have hrq : r ≠ w1.heap.size := by have := HR.out.lt; omega
      have HE9 : Hid (Hs (wr.setCell ⟨r, 1, none⟩ (.int .i64 ((sz : Int) + (n32 : Int)))) w1.heap.size 0 D) := fun i x e j v hv => (World.cell?_setCell_far wr ⟨r, 1, none⟩ _ _ hrq).trans (HE.out i x e j v hv)
      have HT9 : Hid ((wr.setCell ⟨r, 1, none⟩ (.int .i64 ((sz : Int) + (n32 : Int)))).there w1.heap.size 0 (32 * k)) := fun j hj => by
        have := HTr.out j hj
        exact ⟨by rw [World.cell?_setCell_far wr ⟨r, 1, none⟩ _ _ hrq]; exact this.1, by rw [World.frozen?_setCell]; exact this.2⟩
      have hz9 : w1.heap.size < (wr.setCell ⟨r, 1, none⟩ (.int .i64 ((sz : Int) + (n32 : Int)))).heap.size := by rw [World.size_setCell]; exact hqr
      clear HE HTr HSr HOr
      go_wp2
      go_ret
      exact ⟨_, rfl, hq0, hz9, HE9.out, HT9.out, HO9.out⟩
end Go.Proofs.YtgiblfhajiakgaaGreatDoor

namespace Go.Proofs.YtgiblfhajiakgaaGreatDoor
open Go.RowKit
set_option linter.unusedVariables false
set_option linter.unusedSimpArgs false

set_option maxHeartbeats 1000000 in
/-- The reference's Compare. -/
theorem rcmp_any (a b : List UInt8) (ha : a.length = 32) (hb : b.length = 32) (w : World) :
    Calls Tryz.prog 127 #[.agg (bs a), .agg (bs b)] w fun e w' => e = .returned (.int .i64 (cmpL a b)) ∧ Below w.heap.size w w' := by
  have be0 : Below w.heap.size w ((w.alloc (.cells (bs a) 36)).alloc (.cells (bs b) 36)) := ((Below.refl _ _).alloc (Nat.le_refl _) _).alloc (by simp) _
  have g0 : ((w.alloc (.cells (bs a) 36)).alloc (.cells (bs b) 36)).heap[w.heap.size]? = some (.cells (bs a) 36 (0, 0)) := heap_alloc2_old _ _ _
  have g1 : ((w.alloc (.cells (bs a) 36)).alloc (.cells (bs b) 36)).heap[w.heap.size + 1]? = some (.cells (bs b) 36 (0, 0)) := heap_alloc2_new _ _ _
  go_enter Tryz.func127, Tryz.ntmps127
  go_wp2
  generalize ((w.alloc (.cells (bs a) 36)).alloc (.cells (bs b) 36)) = W0 at *
  go_loopw [5] (fun i wr => ∃ k : Nat, k ≤ 32 ∧ i = .int .i64 k ∧ Hid (∀ j, j < k → at8 a j = at8 b j) ∧ ∃ m, wr = W0.drewN m) (fun i _ => 32 - (intOf i).toNat)
  case atStart => exact ⟨0, by omega, rfl, (fun j hj => by omega : ∀ j, j < 0 → at8 a j = at8 b j), 0, rfl⟩
  case round =>
    obtain ⟨k, hk, rfl, hsame, m, rfl⟩ := hrel
    by_cases hlt : k < 32
    · have ca := (cell_of_row W0 w.heap.size k _ _ _ g0).trans (bs_get a k (by omega))
      have cb := (cell_of_row W0 (w.heap.size + 1) k _ _ _ g1).trans (bs_get b k (by omega))
      have HL := cmpL_at a b k (by omega) (by omega) hsame.out
      have HL1 : Hid ((at8 a k < at8 b k → cmpL a b = -1) ∧ (at8 b k < at8 a k → cmpL a b = 1)) := HL
      clear HL
      have hlt' : (k : Int) < 32 := by omega
      by_cases h1 : at8 a k < at8 b k
      · go_wp2
        go_quiet (fail)
        go_wp2
        go_ret
        exact ⟨ret_int (HL1.out.1 h1).symm, below_drewN (below_drewN be0 _) _⟩
      · by_cases h2 : at8 b k < at8 a k
        · go_wp2
          go_quiet (fail)
          go_wp2
          go_quiet (fail)
          go_wp2
          go_ret
          exact ⟨ret_int (HL1.out.2 h2).symm, below_drewN (below_drewN (below_drewN be0 _) _) _⟩
        · go_wp2
          go_quiet (fail)
          go_wp2
          go_quiet (fail)
          go_wp2
          refine ⟨⟨k + 1, by omega, by go_num, ?_, _, rfl⟩, by simp [intOf]; omega⟩
          show ∀ j, j < k + 1 → at8 a j = at8 b j
          intro j hj
          by_cases e : j = k
          · subst e; omega
          · exact hsame.out j (by omega)
    · have hk2 : k = 32 := by omega
      subst hk2
      have HE : Hid (cmpL a b = 0) := by
        show cmpL a b = 0
        rw [at8_ext 32 ha hb hsame.out]
        exact cmpL_same b
      go_wp2
      go_ret
      exact ⟨ret_int HE.out.symm, below_drewN be0 _⟩

/-! ### A hash put in its place -/
theorem srise_app : ∀ {A B : List (List UInt8)}, SRise A → SRise B → (∀ a ∈ A, ∀ b ∈ B, cmpL a b < 0) → SRise (A ++ B)
  | [], B, _, hB, _ => hB
  | x :: r, B, hA, hB, h => by
    rw [List.cons_append]
    refine srise_cons (srise_app hA.tail hB (fun a ha b hb => h a (by simp [ha]) b hb)) (fun y hy => ?_)
    rcases List.mem_append.1 hy with hy | hy
    · exact hA.head hy
    · exact h x (by simp) y hy
theorem srise_take {D : List (List UInt8)} (h : SRise D) (k : Nat) : SRise (D.take k) := fun i j x y hx hy hij => by
  rw [List.getElem?_take] at hx hy
  split at hx
  · split at hy
    · exact h i j x y hx hy hij
    · simp at hy
  · simp at hx
theorem srise_drop {D : List (List UInt8)} (h : SRise D) (k : Nat) : SRise (D.drop k) := fun i j x y hx hy hij => by
  rw [List.getElem?_drop] at hx hy
  exact h (k + i) (k + j) x y hx hy (by omega)
/-- Put in at a place. -/
def ins (D : List (List UInt8)) (k : Nat) (x : List UInt8) : List (List UInt8) := D.take k ++ x :: D.drop k
theorem ins_len (D : List (List UInt8)) (k : Nat) (x : List UInt8) : (ins D k x).length = D.length + 1 := by simp [ins]; omega
theorem ins_mem (D : List (List UInt8)) (k : Nat) (x y : List UInt8) : y ∈ ins D k x ↔ y ∈ D ∨ y = x := by
  have h : y ∈ D ↔ y ∈ D.take k ∨ y ∈ D.drop k := by rw [← List.mem_append, List.take_append_drop]
  simp only [ins, List.mem_append, List.mem_cons, h]
  constructor
  · rintro (h | h | h)
    · exact .inl (.inl h)
    · exact .inr h
    · exact .inl (.inr h)
  · rintro ((h | h) | h)
    · exact .inl h
    · exact .inr (.inr h)
    · exact .inr (.inl h)
theorem all32_ins {D : List (List UInt8)} (h : All32 D) (k : Nat) {x : List UInt8} (hx : x.length = 32) : All32 (ins D k x) := fun y hy => by
  rcases (ins_mem D k x y).1 hy with hy | rfl
  · exact h y hy
  · exact hx
theorem srise_ins {D : List (List UInt8)} (h32 : All32 D) (h : SRise D) {k : Nat} {x : List UInt8} (hx : x.length = 32) (hk : k ≤ D.length) (hlo : ∀ j y, j < k → D[j]? = some y → cmpL y x < 0) (hhi : ∀ y, D[k]? = some y → cmpL x y < 0) : SRise (ins D k x) := by
  have hall : ∀ y ∈ D.drop k, cmpL x y < 0 := fun y hy => by
    obtain ⟨j, hj⟩ := List.mem_iff_getElem?.1 hy
    rw [List.getElem?_drop] at hj
    have hlt := (List.getElem?_eq_some_iff.1 hj).1
    have hz : D[k]? = some D[k] := List.getElem?_eq_getElem (by omega)
    by_cases e : j = 0
    · subst e; exact hhi y (by simpa using hj)
    · exact lt_trans hx (h32.get hz) (h32.get hj) (hhi _ hz) (h k (k + j) _ y hz hj (by omega))
  have hal : ∀ y ∈ D.take k, cmpL y x < 0 := fun y hy => by
    obtain ⟨j, hj⟩ := List.mem_iff_getElem?.1 hy
    rw [List.getElem?_take] at hj
    split at hj
    · rename_i hjk; exact hlo j y hjk hj
    · simp at hj
  refine srise_app (srise_take h k) (srise_cons (srise_drop h k) hall) (fun a ha b hb => ?_)
  rcases List.mem_cons.1 hb with rfl | hb
  · exact hal a ha
  · exact lt_trans (h32 a (List.mem_of_mem_take ha)) hx (h32 b (List.mem_of_mem_drop hb)) (hal a ha) (hall b hb)
/-- The first of a list, and the next one. -/
theorem srt_next {L D E : List (List UInt8)} {k : Nat} {x : List UInt8} (hx : L[k]? = some x) (h : Srt (L.take k) D) (h1 : SRise E) (h2 : All32 E) (h3 : ∀ y, y ∈ E ↔ y ∈ D ∨ y = x) : Srt (L.take (k + 1)) E := by
  refine ⟨h1, h2, fun y => ?_⟩
  rw [h3, h.2.2, List.take_add_one, hx]
  simp
/-- What a list is while places are freed. -/
def Shf (D X : List (List UInt8)) (k : Nat) : Prop := X.length = D.length + 1 ∧ All32 X ∧ (∀ j, j < k → X[j]? = D[j]?) ∧ ∀ j, k ≤ j → j < D.length → X[j + 1]? = D[j]?
theorem shf_zero {D : List (List UInt8)} (h : All32 D) : Shf D (D ++ [z32]) D.length := ⟨by simp, all32_app h (fun x hx => by simp at hx; subst hx; exact z32_len), fun j hj => List.getElem?_append_left hj, fun j h1 h2 => by omega⟩
theorem shf_step {D X : List (List UInt8)} {k : Nat} {p : List UInt8} (h : Shf D X k) (hk : 1 ≤ k) (hkD : k ≤ D.length) (hp : D[k - 1]? = some p) (hp32 : p.length = 32) : Shf D (X.set k p) (k - 1) := by
  obtain ⟨h1, h2, h3, h4⟩ := h
  refine ⟨by simp [h1], h2.set k hp32, fun j hj => ?_, fun j hj hjD => ?_⟩
  · rw [List.getElem?_set_ne (by omega)]; exact h3 j (by omega)
  · by_cases e : j = k - 1
    · subst e
      rw [show k - 1 + 1 = k by omega, List.getElem?_set_self (by omega)]
      exact hp.symm
    · rw [List.getElem?_set_ne (by omega)]; exact h4 j (by omega) hjD
theorem shf_end {D X : List (List UInt8)} {k : Nat} {x : List UInt8} (h : Shf D X k) (hk : k ≤ D.length) : X.set k x = ins D k x := by
  obtain ⟨h1, h2, h3, h4⟩ := h
  apply List.ext_getElem?
  intro j
  unfold ins
  rcases Nat.lt_trichotomy j k with h | h | h
  · rw [List.getElem?_set_ne (by omega), List.getElem?_append_left (by simp; omega), List.getElem?_take, if_pos h]
    exact h3 j h
  · subst h
    rw [List.getElem?_set_self (by omega), List.getElem?_append_right (by simp; omega)]
    simp [Nat.min_eq_left hk]
  · rw [List.getElem?_set_ne (by omega), List.getElem?_append_right (by simp; omega)]
    have e : (D.take k).length = k := by simp; omega
    rw [e]
    obtain ⟨m, rfl⟩ : ∃ m, j = k + 1 + m := ⟨j - (k + 1), by omega⟩
    rw [show k + 1 + m - k = m + 1 by omega, List.getElem?_cons_succ, List.getElem?_drop]
    by_cases hm : k + m < D.length
    · have := h4 (k + m) (by omega) hm
      rw [show k + 1 + m = k + m + 1 by omega]
      exact this
    · rw [List.getElem?_eq_none (by omega), List.getElem?_eq_none (by omega)]

/-! ### A block of hashes of the call's own -/
def Box (w : World) (g cap : Nat) : Prop := ∃ cur, w.heap[g]? = some (.cells cur 36 (0, 0)) ∧ cur.size = cap * 32
theorem box_setCells (g cap : Nat) : ∀ (vs : List Value) (o : Nat) (w : World), Box w g cap → Box (w.setCells g o vs) g cap
  | [], _, _, h => h
  | v :: r, o, w, ⟨cur, h1, h2⟩ => box_setCells g cap r (o + 1) _ ⟨_, heap_setCell_same w g o cur _ v h1, by simp [h2]⟩
theorem Box.below {w w' : World} {g cap B : Nat} (h : Box w g cap) (hb : Below B w w') (hg : g < B) : Box w' g cap := by
  obtain ⟨cur, h1, h2⟩ := h
  exact ⟨cur, by rw [hb.block g hg]; exact h1, h2⟩
theorem Box.lt {w : World} {g cap : Nat} (h : Box w g cap) : g < w.heap.size := by
  obtain ⟨cur, h1, h2⟩ := h
  exact (Array.getElem?_eq_some_iff.1 h1).1
theorem Box.there {w : World} {g cap n : Nat} (h : Box w g cap) (hn : n ≤ cap) : w.there g 0 (32 * n) := fun j hj => by
  obtain ⟨cur, h1, h2⟩ := h
  refine ⟨?_, ?_⟩
  · rw [Nat.zero_add, cell_of_row w g j cur _ _ h1, Array.getElem?_eq_getElem (by omega)]; rfl
  · rw [Nat.zero_add]; exact frozen_of_row w g j cur _ h1
theorem OwnH.box {w : World} {base : Nat} {v : Value} {L : List (List UInt8)} (h : OwnH w base v L) (h0 : 0 < L.length) :
    ∃ g cap, v = .slice (some ⟨g, 0, none⟩) L.length cap ∧ L.length ≤ cap ∧ cap ≤ maxLen ∧ base ≤ g ∧ Box w g cap ∧ Hs w g 0 L := by
  have ho := h.open
  obtain ⟨hL, hlen, ⟨rfl, hn⟩ | ⟨g, cap, cur, rfl, hbg, hg, hnc, hcm, hcs', htake⟩⟩ := h
  · omega
  · rcases ho with ⟨h1, _⟩ | ⟨g', cap', h1, _, _, _, h5, _⟩
    · cases h1
    · cases h1
      exact ⟨g, cap, rfl, hnc, hcm, hbg, ⟨cur, hg, hcs'⟩, h5⟩
theorem ownH_mk {w : World} {base g cap : Nat} {L : List (List UInt8)} (hL : All32 L) (hb : Box w g cap) (hn : L.length ≤ cap) (hm : cap ≤ maxLen) (hg : base ≤ g) (hs : Hs w g 0 L) : OwnH w base (.slice (some ⟨g, 0, none⟩) L.length cap) L := by
  obtain ⟨cur, h1, h2⟩ := hb
  refine ⟨hL, flat_len hL, .inr ⟨g, cap, cur, rfl, hg, h1, hn, hm, h2, ?_⟩⟩
  apply List.ext_getElem?
  intro j
  by_cases hj : j < L.length * 32
  · have hx : L[j / 32]? = some L[j / 32] := List.getElem?_eq_getElem (by omega)
    have e1 := flat_get hL (j / 32) (j % 32) _ hx (by omega)
    rw [show j / 32 * 32 + j % 32 = j by omega] at e1
    have hlt : j % 32 < (hcs L[j / 32]).length := by rw [hcs_len, hL.get hx]; omega
    have e2 := hs (j / 32) _ hx (j % 32) _ (List.getElem?_eq_getElem hlt)
    rw [show 0 + 32 * (j / 32) + j % 32 = j by omega, cell_of_row w g j cur _ _ h1] at e2
    rw [e1, List.getElem?_take, if_pos hj, List.getElem?_eq_getElem hlt, ← e2]
    simp
  · rw [List.getElem?_take, if_neg hj, List.getElem?_eq_none (by rw [flat_len hL]; omega)]
end Go.Proofs.YtgiblfhajiakgaaGreatDoor

