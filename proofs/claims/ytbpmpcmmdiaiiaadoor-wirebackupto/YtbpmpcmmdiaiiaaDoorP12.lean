import Derived.Test.YtbpmpcmmdiaiiaaDoorP11
import Derived.Test.YtbpmpcmmdiaiiaaDoorP5
import Derived.Test.YtbpmpcmmdiaiiaaDoorP9
import Derived.Test.YtbpmpcmmdiaiiaaDoorP10
namespace Go.Proofs.YtbpmpcmmdiaiiaaDoor
open Go.RowKit
set_option linter.unusedVariables false
set_option linter.unusedSimpArgs false

/-- An Op of nothing. -/
def oz : OpV := ⟨0, false, 0, 0, 0, ⟨#[]⟩, none, 0, 0, z32, none, 0, 0, 0⟩
def OpV.g (o : OpV) : Array Value := gC (.int .u8 o.b) (.bool o.v) (.int .u64 (o.u : Int)) (.int .i64 o.n) (.float .f64 o.f) (.string o.s) (.slice o.ra o.rn o.rc) o.h (.slice o.la o.ln o.lc)
/-- What is written of it. -/
def enc (kd : Int) (o : OpV) (R : List UInt8) (D : List (List UInt8)) : List UInt8 :=
  if kd = 0 then [UInt8.ofNat o.b.toNat] else if kd = 1 then [if o.v = true then 1 else 0] else if kd = 2 then K.b4 (o.u % 4294967296) else if kd = 3 then K.vint o.u else if kd = 4 then K.vint (K.zig o.n)
  else if kd = 5 then K.b8 o.f else if kd = 6 then K.vint o.s.size ++ o.s.data.toList else if kd = 7 then K.vint o.rn ++ R else if kd = 8 then o.h else if kd = 9 then hw D else []
/-- What was read, as it lies in memory. -/
structure GdO (W : World) (z : Nat) (kd : Int) (o : OpV) (R : List UInt8) (D : List (List UInt8)) : Prop where
  hh : o.h.length = 32
  u : o.u < 18446744073709551616
  n0 : -9223372036854775808 ≤ o.n
  n1 : o.n < 9223372036854775808
  f : o.f < 18446744073709551616
  b0 : 0 ≤ o.b
  b1 : o.b ≤ 255
  r : R.length = o.rn
  rb : K.Byt W o.ra R
  rz : ∀ ad, o.ra = some ad → z ≤ ad.block ∧ ad.block < W.heap.size
  d32 : All32 D
  d : D.length = o.ln
  dl : Hl W o.la D
  dz : ∀ ad, o.la = some ad → z ≤ ad.block ∧ ad.block < W.heap.size
  dr : SRise D
  fin : kd = 5 → K.finB o.f = true
  val : kd = 6 → Lib.validD o.s.data.toList = true
  e : o.e = 0
  rle : o.rn ≤ 140737488351232
  lle : o.ln ≤ 4398046510976
  sle : o.s.size ≤ 140737488351232
theorem srise_nil : SRise [] := fun i j x y h => by simp at h
/-- .. with no lists. -/
theorem gd_none {W : World} {z : Nat} {kd : Int} {o : OpV} (hra : o.ra = none) (hrn : o.rn = 0) (hla : o.la = none) (hln : o.ln = 0) (he : o.e = 0) (hh : o.h.length = 32) (u : o.u < 18446744073709551616) (n0 : -9223372036854775808 ≤ o.n) (n1 : o.n < 9223372036854775808) (f : o.f < 18446744073709551616) (b0 : 0 ≤ o.b) (b1 : o.b ≤ 255)
    (fin : kd = 5 → K.finB o.f = true) (val : kd = 6 → Lib.validD o.s.data.toList = true) (sle : o.s.size ≤ 140737488351232) : GdO W z kd o [] [] :=
  ⟨hh, u, n0, n1, f, b0, b1, by rw [hrn]; rfl, .inl rfl, fun ad e => (by rw [hra] at e; cases e), fun x h => (by cases h), by rw [hln]; rfl, .inl rfl, fun ad e => (by rw [hla] at e; cases e), srise_nil, fin, val, he, by omega, by omega, sle⟩
/-- How a read goes on. -/
def Rel (L : List UInt8) (s s' : K.St) (E : List UInt8) : Prop := (s.bad = 0 ∧ s'.bad = 0 ∧ s'.k = s.k + E.length ∧ K.cut L s.k E.length = E ∧ s'.k ≤ L.length) ∨ (s'.bad ≠ 0 ∧ E.length ≤ 40)
variable {r cap : Nat} {a : Option Addr} {L : List UInt8} {s : K.St}
theorem rdd_on {w w' : World} {T : TypeId} {s' : K.St} (h0 : K.RD w T r a cap L s) (h : Rdd w (fun wx w1 => K.On wx w1 T r a cap L s') w') : K.On w w' T r a cap L s' := by
  obtain ⟨wx, w1, b, hz, on, f⟩ := h
  exact on_below h0 ⟨on.1, (K.Fr.of_below b).trans on.2⟩ (f.below (B := w.heap.size) (by omega)) (Nat.le_refl _)
theorem byt_fx {z : Nat} {w w' : World} {a : Option Addr} {R : List UInt8} (h : Fx z w w') (hb : K.Byt w a R) (hne : ∀ ad, a = some ad → z + 3 ≤ ad.block) : K.Byt w' a R := by
  rcases hb with rfl | ⟨b, off, rfl, hc⟩
  · exact .inl rfl
  · have := hne _ rfl
    simp only at this
    exact .inr ⟨b, off, rfl, fun j hj => (World.cell?_of_block (h.block b (by omega) (by omega))).trans (hc j hj)⟩
theorem hs_fx {z q : Nat} {w w' : World} {D : List (List UInt8)} (h : Fx z w w') (hb : Hs w q 0 D) (hne : z + 3 ≤ q) : Hs w' q 0 D := fun i x e j v hv => (World.cell?_of_block (h.block q (by omega) (by omega))).trans (hb i x e j v hv)
/-- What a read of either kind answers. -/
def RdOne (w : World) (r : Nat) (a : Option Addr) (cap : Nat) (L : List UInt8) (s : K.St) (kd : Int) (x : Ending) (w' : World) : Prop :=
  ∃ (o : OpV) (R : List UInt8) (D : List (List UInt8)) (s' : K.St), x = .returned (.agg o.g) ∧ K.On w w' 92 r a cap L s' ∧ GdO w' w.heap.size kd o R D ∧ Rel L s s' (enc kd o R D)
theorem fits_cnt {most : Int} (h : K.Fits L s.k most 1) : K.rCnt L most.toNat s = (some ((K.num L s.k).v, (K.num L s.k).size), s) := by
  obtain ⟨h1, h2, h3, h4⟩ := h
  unfold K.rCnt
  rw [if_pos h1, if_pos (by omega), if_pos (by omega)]
theorem keep_on' {w wx w1 : World} {T : TypeId} {s' : K.St} (h0 : K.RD w T r a cap L s) (on : K.On wx w1 T r a cap L s') : Keeps w.heap.size wx w1 := Keeps.of_fr on.2 h0.lt
theorem cut_1 (L : List UInt8) (k : Nat) (h : k + 1 ≤ L.length) : K.cut L k 1 = [L.getD k 0] := by
  unfold K.cut
  rw [K.drop_cons L k (by omega)]
  rfl
theorem rd0 (u m e : Int) (w : World) (h : K.RD w 92 r a cap L s) : Calls Tryd.prog 11 #[.pointer (some ⟨r, 0, none⟩), .agg #[.int .i64 0, .int .u64 u, .int .i64 m, .int .i64 e]] w (RdOne w r a cap L s 0) := by
  refine (read_0 (some ⟨r, 0, none⟩) u m e (K.rByte L s).1 w (fun wx w1 => K.On wx w1 92 r a cap L (K.rByte L s).2) (fun wx bx _ => (K.byte_any wx (RD_b h bx)).mono fun x w1 k => ⟨k.1, k.2, keep_on' h k.2⟩)).mono ?_
  rintro x w' ⟨rfl, hd⟩
  have on := rdd_on h hd
  have hlo := K.at8_lo L s.k
  have hhi := K.at8_hi L s.k
  refine ⟨{ oz with b := (K.rByte L s).1 }, [], [], _, rfl, on, ?_, ?_⟩
  · refine gd_none rfl rfl rfl rfl rfl z32_len (by show (0 : Nat) < _; decide) (by show _ ≤ (0 : Int); decide) (by show (0 : Int) < _; decide) (by show (0 : Nat) < _; decide) ?_ ?_ (fun h => by omega) (fun h => by omega) (by show (0 : Nat) ≤ _; omega)
    · show 0 ≤ (K.rByte L s).1
      unfold K.rByte; repeat' split
      all_goals (simp only []; omega)
    · show (K.rByte L s).1 ≤ 255
      unfold K.rByte; repeat' split
      all_goals (simp only []; omega)
  · unfold enc Rel
    rw [if_pos rfl]
    show (s.bad = 0 ∧ (K.rByte L s).2.bad = 0 ∧ (K.rByte L s).2.k = s.k + 1 ∧ K.cut L s.k 1 = [UInt8.ofNat (K.rByte L s).1.toNat] ∧ (K.rByte L s).2.k ≤ L.length) ∨ ((K.rByte L s).2.bad ≠ 0 ∧ 1 ≤ 40)
    unfold K.rByte
    split
    · rename_i hb
      split
      · rename_i hk
        refine .inl ⟨hb, hb, rfl, ?_, hk⟩
        rw [cut_1 L s.k hk]
        unfold K.at8
        simp
      · exact .inr ⟨by simp, by decide⟩
    · rename_i hb
      exact .inr ⟨hb, by decide⟩
theorem rd1 (u m e : Int) (w : World) (h : K.RD w 92 r a cap L s) : Calls Tryd.prog 11 #[.pointer (some ⟨r, 0, none⟩), .agg #[.int .i64 1, .int .u64 u, .int .i64 m, .int .i64 e]] w (RdOne w r a cap L s 1) := by
  refine (read_1 (some ⟨r, 0, none⟩) u m e (K.rBool L s).1 w (fun wx w1 => K.On wx w1 92 r a cap L (K.rBool L s).2) (fun wx bx _ => (K.bool_any wx (RD_b h bx)).mono fun x w1 k => ⟨k.1, k.2, keep_on' h k.2⟩)).mono ?_
  rintro x w' ⟨rfl, hd⟩
  have on := rdd_on h hd
  refine ⟨{ oz with v := (K.rBool L s).1 }, [], [], _, rfl, on, gd_none rfl rfl rfl rfl rfl z32_len (by show (0 : Nat) < _; decide) (by show _ ≤ (0 : Int); decide) (by show (0 : Int) < _; decide) (by show (0 : Nat) < _; decide) (by show (0 : Int) ≤ 0; decide) (by show (0 : Int) ≤ _; decide) (fun h => by omega) (fun h => by omega) (by show (0 : Nat) ≤ _; omega), ?_⟩
  unfold enc Rel
  rw [if_neg (by decide), if_pos rfl]
  show (s.bad = 0 ∧ (K.rBool L s).2.bad = 0 ∧ (K.rBool L s).2.k = s.k + 1 ∧ K.cut L s.k 1 = [if (K.rBool L s).1 = true then 1 else 0] ∧ (K.rBool L s).2.k ≤ L.length) ∨ ((K.rBool L s).2.bad ≠ 0 ∧ 1 ≤ 40)
  unfold K.rBool
  split
  · rename_i hb
    split
    · rename_i hk
      split
      · rename_i h1
        refine .inl ⟨hb, hb, rfl, ?_, hk⟩
        rw [cut_1 L s.k hk]
        unfold K.at8 at h1 ⊢
        generalize L.getD s.k 0 = x at *
        have : x.toNat = 0 ∨ x.toNat = 1 := by omega
        rcases this with h0 | h0
        · have : x = 0 := UInt8.toNat_inj.1 h0
          subst this
          rfl
        · have : x = 1 := UInt8.toNat_inj.1 h0
          subst this
          rfl
      · exact .inr ⟨by simp, by decide⟩
    · exact .inr ⟨by simp, by decide⟩
  · rename_i hb
    exact .inr ⟨hb, by decide⟩
theorem b4_len (n : Nat) : (K.b4 n).length = 4 := rfl
theorem b8_len (n : Nat) : (K.b8 n).length = 8 := rfl
theorem rd2 (u m e : Int) (w : World) (h : K.RD w 92 r a cap L s) : Calls Tryd.prog 11 #[.pointer (some ⟨r, 0, none⟩), .agg #[.int .i64 2, .int .u64 u, .int .i64 m, .int .i64 e]] w (RdOne w r a cap L s 2) := by
  have hlt : (rFix L s).1 < 4294967296 := by
    unfold rFix
    have := K.be_lt L s.k 4
    have e4 : (256 : Nat) ^ 4 = 4294967296 := by decide
    rw [e4] at this
    repeat' split
    all_goals (simp only []; omega)
  refine (read_2 (some ⟨r, 0, none⟩) u m e ((rFix L s).1 : Int) (by omega) (by omega) w (fun wx w1 => K.On wx w1 92 r a cap L (rFix L s).2) (fun wx bx _ => (rfix_any wx (RD_b h bx)).mono fun x w1 k => ⟨k.1, k.2, keep_on' h k.2⟩)).mono ?_
  rintro x w' ⟨rfl, hd⟩
  have on := rdd_on h hd
  refine ⟨{ oz with u := (rFix L s).1 }, [], [], _, rfl, on, gd_none rfl rfl rfl rfl rfl z32_len (by show (rFix L s).1 < _; omega) (by show _ ≤ (0 : Int); decide) (by show (0 : Int) < _; decide) (by show (0 : Nat) < _; decide) (by show (0 : Int) ≤ 0; decide) (by show (0 : Int) ≤ _; decide) (fun h => by omega) (fun h => by omega) (by show (0 : Nat) ≤ _; omega), ?_⟩
  unfold enc Rel
  rw [if_neg (by decide), if_neg (by decide), if_pos rfl, b4_len]
  show (s.bad = 0 ∧ (rFix L s).2.bad = 0 ∧ (rFix L s).2.k = s.k + 4 ∧ K.cut L s.k 4 = K.b4 ((rFix L s).1 % 4294967296) ∧ (rFix L s).2.k ≤ L.length) ∨ ((rFix L s).2.bad ≠ 0 ∧ 4 ≤ 40)
  rw [Nat.mod_eq_of_lt hlt]
  clear hlt on hd
  unfold rFix
  split
  · rename_i hb
    split
    · rename_i hk
      exact .inl ⟨hb, hb, rfl, (K.be_cut4 L s.k hk).symm, hk⟩
    · exact .inr ⟨by simp, by decide⟩
  · rename_i hb
    exact .inr ⟨hb, by decide⟩
theorem vint0 : K.vint 0 = [0] := by rw [K.vint_lt (by omega)]; rfl
theorem uint_rel (most : Nat) (h : s.k ≤ L.length) : Rel L s (K.rUint L most s).2 (K.vint (K.rUint L most s).1) := by
  unfold Rel K.rUint
  have hok := K.num_ok L s.k h
  split
  · rename_i hb
    split
    · rename_i hw
      obtain ⟨q1, q2⟩ := K.num_canon L s.k hw
      obtain ⟨q3, q4, q5⟩ := hok.1 hw
      split
      · refine .inl ⟨hb, hb, ?_, ?_, q4⟩
        · simp only []; rw [← q1]
        · simp only []; rw [← q1]; exact q2
      · refine .inr ⟨by simp, ?_⟩
        simp only []; rw [vint0]; decide
    · rename_i hw
      refine .inr ⟨hw, ?_⟩
      simp only []; rw [vint0]; decide
  · rename_i hb
    refine .inr ⟨hb, ?_⟩
    simp only []; rw [vint0]; decide
theorem rd3 (u : Nat) (hu : u < 18446744073709551616) (m e : Int) (w : World) (h : K.RD w 92 r a cap L s) : Calls Tryd.prog 11 #[.pointer (some ⟨r, 0, none⟩), .agg #[.int .i64 3, .int .u64 (u : Int), .int .i64 m, .int .i64 e]] w (RdOne w r a cap L s 3) := by
  refine (read_3 (some ⟨r, 0, none⟩) u m e ((K.rUint L u s).1 : Int) w (fun wx w1 => K.On wx w1 92 r a cap L (K.rUint L u s).2) (fun wx bx _ => (K.uint_any u hu wx (RD_b h bx)).mono fun x w1 k => ⟨k.1, k.2, keep_on' h k.2⟩)).mono ?_
  rintro x w' ⟨rfl, hd⟩
  have on := rdd_on h hd
  refine ⟨{ oz with u := (K.rUint L u s).1 }, [], [], _, rfl, on, gd_none rfl rfl rfl rfl rfl z32_len (K.rUint_lt L u s h.at_le) (by show _ ≤ (0 : Int); decide) (by show (0 : Int) < _; decide) (by show (0 : Nat) < _; decide) (by show (0 : Int) ≤ 0; decide) (by show (0 : Int) ≤ _; decide) (fun h => by omega) (fun h => by omega) (by show (0 : Nat) ≤ _; omega), ?_⟩
  unfold enc
  rw [if_neg (by decide), if_neg (by decide), if_neg (by decide), if_pos rfl]
  exact uint_rel u h.at_le
theorem rd4 (u m e : Int) (w : World) (h : K.RD w 92 r a cap L s) : Calls Tryd.prog 11 #[.pointer (some ⟨r, 0, none⟩), .agg #[.int .i64 4, .int .u64 u, .int .i64 m, .int .i64 e]] w (RdOne w r a cap L s 4) := by
  refine (read_4 (some ⟨r, 0, none⟩) u m e (K.rInt L s).1 w (fun wx w1 => K.On wx w1 92 r a cap L (K.rInt L s).2) (fun wx bx _ => (K.int_any wx (RD_b h bx)).mono fun x w1 k => ⟨k.1, k.2, keep_on' h k.2⟩)).mono ?_
  rintro x w' ⟨rfl, hd⟩
  have on := rdd_on h hd
  have hb := K.unzig_lo _ (K.rUint_lt L 18446744073709551615 s h.at_le)
  refine ⟨{ oz with n := (K.rInt L s).1 }, [], [], _, rfl, on, gd_none rfl rfl rfl rfl rfl z32_len (by show (0 : Nat) < _; decide) hb.1 hb.2 (by show (0 : Nat) < _; decide) (by show (0 : Int) ≤ 0; decide) (by show (0 : Int) ≤ _; decide) (fun h => by omega) (fun h => by omega) (by show (0 : Nat) ≤ _; omega), ?_⟩
  unfold enc
  rw [if_neg (by decide), if_neg (by decide), if_neg (by decide), if_neg (by decide), if_pos rfl]
  show Rel L s _ (K.vint (K.zig (K.unzig _)))
  rw [K.zig_unzig]
  exact uint_rel _ h.at_le
theorem finB0 : K.finB 0 = true := by decide +kernel
theorem rd5 (u m e : Int) (w : World) (h : K.RD w 92 r a cap L s) : Calls Tryd.prog 11 #[.pointer (some ⟨r, 0, none⟩), .agg #[.int .i64 5, .int .u64 u, .int .i64 m, .int .i64 e]] w (RdOne w r a cap L s 5) := by
  refine (read_5 (some ⟨r, 0, none⟩) u m e (K.rFloat L s).1 w (fun wx w1 => K.On wx w1 92 r a cap L (K.rFloat L s).2) (fun wx bx _ => (K.float_any wx (RD_b h bx)).mono fun x w1 k => ⟨k.1, k.2, keep_on' h k.2⟩)).mono ?_
  rintro x w' ⟨rfl, hd⟩
  have on := rdd_on h hd
  have hlt : (K.rFloat L s).1 < 18446744073709551616 := by
    have := K.be_lt L s.k 8
    have e4 : (256 : Nat) ^ 8 = 18446744073709551616 := by decide
    rw [e4] at this
    unfold K.rFloat
    repeat' split
    all_goals (simp only []; omega)
  have hfin : K.finB (K.rFloat L s).1 = true := by
    unfold K.rFloat
    repeat' split
    all_goals first | assumption | exact finB0
  refine ⟨{ oz with f := (K.rFloat L s).1 }, [], [], _, rfl, on, gd_none rfl rfl rfl rfl rfl z32_len (by show (0 : Nat) < _; decide) (by show _ ≤ (0 : Int); decide) (by show (0 : Int) < _; decide) hlt (by show (0 : Int) ≤ 0; decide) (by show (0 : Int) ≤ _; decide) (fun _ => hfin) (fun h => by omega) (by show (0 : Nat) ≤ _; omega), ?_⟩
  unfold enc Rel
  rw [if_neg (by decide), if_neg (by decide), if_neg (by decide), if_neg (by decide), if_neg (by decide), if_pos rfl, b8_len]
  show (s.bad = 0 ∧ (K.rFloat L s).2.bad = 0 ∧ (K.rFloat L s).2.k = s.k + 8 ∧ K.cut L s.k 8 = K.b8 (K.rFloat L s).1 ∧ (K.rFloat L s).2.k ≤ L.length) ∨ ((K.rFloat L s).2.bad ≠ 0 ∧ 8 ≤ 40)
  clear hlt hfin on hd
  unfold K.rFloat
  split
  · rename_i hb
    split
    · rename_i hk
      split
      · exact .inl ⟨hb, hb, rfl, (K.be_cut8 L s.k hk).symm, hk⟩
      · exact .inr ⟨by simp, by decide⟩
    · exact .inr ⟨by simp, by decide⟩
  · rename_i hb
    exact .inr ⟨hb, by decide⟩
theorem rd8 (u m e : Int) (w : World) (h : K.RD w 92 r a cap L s) : Calls Tryd.prog 11 #[.pointer (some ⟨r, 0, none⟩), .agg #[.int .i64 8, .int .u64 u, .int .i64 m, .int .i64 e]] w (RdOne w r a cap L s 8) := by
  have hl : (rHash L s).1.length = 32 := by
    unfold rHash
    split
    · split
      · simp; omega
      · rfl
    · rfl
  refine (read_8 (some ⟨r, 0, none⟩) u m e (rHash L s).1 hl w (fun wx w1 => K.On wx w1 92 r a cap L (rHash L s).2) (fun wx bx _ => (rhash_any wx (RD_b h bx)).mono fun x w1 k => ⟨k.1, k.2, keep_on' h k.2⟩)).mono ?_
  rintro x w' ⟨rfl, hd⟩
  have on := rdd_on h hd
  refine ⟨{ oz with h := (rHash L s).1 }, [], [], _, rfl, on, gd_none rfl rfl rfl rfl rfl hl (by show (0 : Nat) < _; decide) (by show _ ≤ (0 : Int); decide) (by show (0 : Int) < _; decide) (by show (0 : Nat) < _; decide) (by show (0 : Int) ≤ 0; decide) (by show (0 : Int) ≤ _; decide) (fun h => by omega) (fun h => by omega) (by show (0 : Nat) ≤ _; omega), ?_⟩
  unfold enc Rel
  rw [if_neg (by decide), if_neg (by decide), if_neg (by decide), if_neg (by decide), if_neg (by decide), if_neg (by decide), if_neg (by decide), if_neg (by decide), if_pos rfl]
  show (s.bad = 0 ∧ (rHash L s).2.bad = 0 ∧ (rHash L s).2.k = s.k + (rHash L s).1.length ∧ K.cut L s.k (rHash L s).1.length = (rHash L s).1 ∧ (rHash L s).2.k ≤ L.length) ∨ ((rHash L s).2.bad ≠ 0 ∧ (rHash L s).1.length ≤ 40)
  rw [hl]
  clear hl on hd
  unfold rHash
  split
  · rename_i hb
    split
    · rename_i hk
      exact .inl ⟨hb, hb, rfl, rfl, hk⟩
    · exact .inr ⟨by simp, by decide⟩
  · rename_i hb
    exact .inr ⟨hb, by decide⟩
theorem rdno (k u m e : Int) (hk : k < 0 ∨ 10 < k) (w : World) (h : K.RD w 92 r a cap L s) : Calls Tryd.prog 11 #[.pointer (some ⟨r, 0, none⟩), .agg #[.int .i64 k, .int .u64 u, .int .i64 m, .int .i64 e]] w (RdOne w r a cap L s k) := by
  refine (read_no (some ⟨r, 0, none⟩) k u m e hk w).mono ?_
  rintro x w' ⟨rfl, wx, w1, q1, q2, q3, q4⟩
  have on : K.On w w' 92 r a cap L s := rdd_on h ⟨wx, w1, q1, q2, by rw [q3]; exact (RD_b h q1).on, q4⟩
  refine ⟨oz, [], [], _, rfl, on, gd_none rfl rfl rfl rfl rfl z32_len (by show (0 : Nat) < _; decide) (by show _ ≤ (0 : Int); decide) (by show (0 : Int) < _; decide) (by show (0 : Nat) < _; decide) (by show (0 : Int) ≤ 0; decide) (by show (0 : Int) ≤ _; decide) (fun h => by omega) (fun h => by omega) (by show (0 : Nat) ≤ _; omega), ?_⟩
  unfold enc Rel
  rw [if_neg (by omega), if_neg (by omega), if_neg (by omega), if_neg (by omega), if_neg (by omega), if_neg (by omega), if_neg (by omega), if_neg (by omega), if_neg (by omega), if_neg (by omega)]
  by_cases hb : s.bad = 0
  · exact .inl ⟨hb, hb, rfl, by simp [K.cut], h.at_le⟩
  · exact .inr ⟨hb, by simp⟩
end Go.Proofs.YtbpmpcmmdiaiiaaDoor

namespace Go.Proofs.YtbpmpcmmdiaiiaaDoor
open Go.RowKit
set_option linter.unusedVariables false
set_option linter.unusedSimpArgs false

variable {r cap : Nat} {a : Option Addr} {L : List UInt8} {s : K.St}
theorem enc6 (o : OpV) (R : List UInt8) (D : List (List UInt8)) : enc 6 o R D = K.vint o.s.size ++ o.s.data.toList := by
  unfold enc
  rw [if_neg (by decide), if_neg (by decide), if_neg (by decide), if_neg (by decide), if_neg (by decide), if_neg (by decide), if_pos rfl]
theorem enc7 (o : OpV) (R : List UInt8) (D : List (List UInt8)) : enc 7 o R D = K.vint o.rn ++ R := by
  unfold enc
  rw [if_neg (by decide), if_neg (by decide), if_neg (by decide), if_neg (by decide), if_neg (by decide), if_neg (by decide), if_neg (by decide), if_pos rfl]
theorem enc9 (o : OpV) (R : List UInt8) (D : List (List UInt8)) : enc 9 o R D = hw D := by
  unfold enc
  rw [if_neg (by decide), if_neg (by decide), if_neg (by decide), if_neg (by decide), if_neg (by decide), if_neg (by decide), if_neg (by decide), if_neg (by decide), if_neg (by decide), if_pos rfl]
theorem cut_nil (k : Nat) : K.cut L k 0 = [] := by simp [K.cut]
/-- A number and so many bytes behind it, as they are written. -/
theorem cnt_rel {m : Int} (h : K.Fits L s.k m 1) (hb : s.bad = 0) : Rel L s ⟨s.k + (K.num L s.k).size + (K.num L s.k).v, s.bad, s.wh⟩ (K.vint (K.num L s.k).v ++ K.cut L (s.k + (K.num L s.k).size) (K.num L s.k).v) := by
  obtain ⟨h1, h2, h3, h4⟩ := h
  obtain ⟨q1, q2⟩ := K.num_canon L s.k h1
  have hl : (K.cut L (s.k + (K.num L s.k).size) (K.num L s.k).v).length = (K.num L s.k).v := K.cut_len _ _ _ (by omega)
  have hE : (K.vint (K.num L s.k).v ++ K.cut L (s.k + (K.num L s.k).size) (K.num L s.k).v).length = (K.num L s.k).size + (K.num L s.k).v := by rw [List.length_append, hl, ← q1]
  refine .inl ⟨hb, hb, ?_, ?_, by show s.k + _ + _ ≤ _; omega⟩
  · show s.k + (K.num L s.k).size + (K.num L s.k).v = _
    rw [hE]; omega
  · rw [hE]
    exact K.num_cut L s.k _ h1
theorem gdz {W : World} {z : Nat} {kd : Int} (h5 : kd ≠ 5) : GdO W z kd oz [] [] :=
  gd_none rfl rfl rfl rfl rfl z32_len (by show (0 : Nat) < _; decide) (by show _ ≤ (0 : Int); decide) (by show (0 : Int) < _; decide) (by show (0 : Nat) < _; decide) (by show (0 : Int) ≤ 0; decide) (by show (0 : Int) ≤ _; decide) (fun h => absurd h h5) (fun h => rfl) (by show (0 : Nat) ≤ _; omega)
theorem rd6 (u m e : Int) (hm0 : -9223372036854775808 ≤ m) (hm : m < 9223372036854775808) (w : World) (hT : K.Tabs w) (hr : ∀ wx, Below w.heap.size w wx → 0 ≠ r ∧ 1 ≠ r) (h : K.RD w 92 r a cap L s) : Calls Tryd.prog 11 #[.pointer (some ⟨r, 0, none⟩), .agg #[.int .i64 6, .int .u64 u, .int .i64 m, .int .i64 e]] w (RdOne w r a cap L s 6) := by
  have flt : Calls Tryd.prog 11 #[.pointer (some ⟨r, 0, none⟩), .agg #[.int .i64 6, .int .u64 u, .int .i64 m, .int .i64 e]] w (fun x w' => x = .returned (.agg oz.g) ∧ Rdd w (fun wx w1 => K.Flt wx w1 92 r a cap L s) w') → Calls Tryd.prog 11 #[.pointer (some ⟨r, 0, none⟩), .agg #[.int .i64 6, .int .u64 u, .int .i64 m, .int .i64 e]] w (RdOne w r a cap L s 6) := fun hc => hc.mono fun x w' ⟨e1, wx, w1, q1, q2, ⟨s', f1, f2, f3⟩, q4⟩ => by
    refine ⟨oz, [], [], s', e1, rdd_on h ⟨wx, w1, q1, q2, f3, q4⟩, gdz (by decide), .inr ⟨f1, ?_⟩⟩
    rw [enc6]
    show (K.vint 0 ++ []).length ≤ 40
    rw [vint0]; decide
  by_cases hb : s.bad = 0
  · by_cases hf : K.Fits L s.k m 1
    · have hmn : (m.toNat : Int) = m := by have := hf.2.1; omega
      have hq := fits_cnt hf
      have key : ∀ wx, Below w.heap.size w wx → Calls Tryd.prog 26 #[.pointer (some ⟨r, 0, none⟩), .int .i64 m] wx fun e w' => e = .returned (.string ⟨(K.rText L m.toNat s).1.toArray⟩) ∧ K.On wx w' 92 r a cap L (K.rText L m.toNat s).2 := fun wx bx => by
        have := K.text_any m.toNat (by omega) wx (RD_b h bx) (hT.below bx) (hr wx bx)
        rw [hmn] at this
        exact this
      refine (read_6 (some ⟨r, 0, none⟩) u m e ⟨(K.rText L m.toNat s).1.toArray⟩ w (fun wx w1 => K.On wx w1 92 r a cap L (K.rText L m.toNat s).2) (fun wx bx _ => (key wx bx).mono fun x w1 k => ⟨k.1, k.2, keep_on' h k.2⟩)).mono ?_
      rintro x w' ⟨rfl, hd⟩
      have on := rdd_on h hd
      have hE : K.rText L m.toNat s = if K.good (K.cut L (s.k + (K.num L s.k).size) (K.num L s.k).v) < (K.num L s.k).v then ([], ⟨s.k, 21, (s.k : Int) + ((K.num L s.k).size : Int) + (K.good (K.cut L (s.k + (K.num L s.k).size) (K.num L s.k).v) : Int)⟩) else (K.cut L (s.k + (K.num L s.k).size) (K.num L s.k).v, ⟨s.k + (K.num L s.k).size + (K.num L s.k).v, s.bad, s.wh⟩) := by
        unfold K.rText
        rw [if_pos hb, hq]
      by_cases hg : K.good (K.cut L (s.k + (K.num L s.k).size) (K.num L s.k).v) < (K.num L s.k).v
      · rw [if_pos hg] at hE
        rw [hE] at on ⊢
        refine ⟨oz, [], [], _, rfl, on, gdz (by decide), .inr ⟨by simp, ?_⟩⟩
        rw [enc6]
        show (K.vint 0 ++ []).length ≤ 40
        rw [vint0]; decide
      · rw [if_neg hg] at hE
        rw [hE] at on ⊢
        have hl : (K.cut L (s.k + (K.num L s.k).size) (K.num L s.k).v).length = (K.num L s.k).v := K.cut_len _ _ _ (by have := hf.2.2.2; omega)
        have hv : Lib.validD (K.cut L (s.k + (K.num L s.k).size) (K.num L s.k).v) = true := by
          have hle := K.goodF_le (K.cut L (s.k + (K.num L s.k).size) (K.num L s.k).v).length (K.cut L (s.k + (K.num L s.k).size) (K.num L s.k).v)
          refine K.good_valid (K.cut L (s.k + (K.num L s.k).size) (K.num L s.k).v).length _ (Nat.le_refl _) ?_
          unfold K.good at hg
          omega
        refine ⟨{ oz with s := ⟨(K.cut L (s.k + (K.num L s.k).size) (K.num L s.k).v).toArray⟩ }, [], [], _, rfl, on, gd_none rfl rfl rfl rfl rfl z32_len (by show (0 : Nat) < _; decide) (by show _ ≤ (0 : Int); decide) (by show (0 : Int) < _; decide) (by show (0 : Nat) < _; decide) (by show (0 : Int) ≤ 0; decide) (by show (0 : Int) ≤ _; decide) (fun h => by omega) (fun _ => hv) (by show (K.cut L (s.k + (K.num L s.k).size) (K.num L s.k).v).toArray.size ≤ _; rw [List.size_toArray, hl]; have := h.few; have := hf.2.2.2; omega), ?_⟩
        rw [enc6]
        show Rel L s _ (K.vint (ByteArray.size ⟨(K.cut L (s.k + (K.num L s.k).size) (K.num L s.k).v).toArray⟩) ++ (K.cut L (s.k + (K.num L s.k).size) (K.num L s.k).v))
        rw [show ByteArray.size ⟨(K.cut L (s.k + (K.num L s.k).size) (K.num L s.k).v).toArray⟩ = (K.num L s.k).v from by show (K.cut L (s.k + (K.num L s.k).size) (K.num L s.k).v).toArray.size = _; rw [List.size_toArray, hl]]
        exact cnt_rel hf hb
    · exact flt (read_6 (some ⟨r, 0, none⟩) u m e ⟨#[]⟩ w (fun wx w1 => K.Flt wx w1 92 r a cap L s) (fun wx bx _ => (K.text_no m hm0 hm wx (RD_b h bx) hb hf).mono fun x w1 k => ⟨k.1, k.2, by obtain ⟨s', _, _, on⟩ := k.2; exact keep_on' h on⟩))
  · exact flt (read_6 (some ⟨r, 0, none⟩) u m e ⟨#[]⟩ w (fun wx w1 => K.Flt wx w1 92 r a cap L s) (fun wx bx _ => (K.text_stop m wx (RD_b h bx) hb).mono fun x w1 k => ⟨k.1, k.2, by obtain ⟨s', _, _, on⟩ := k.2; exact keep_on' h on⟩))
theorem rd7 (u m e : Int) (hm0 : -9223372036854775808 ≤ m) (hm : m < 9223372036854775808) (w : World) (h : K.RD w 92 r a cap L s) : Calls Tryd.prog 11 #[.pointer (some ⟨r, 0, none⟩), .agg #[.int .i64 7, .int .u64 u, .int .i64 m, .int .i64 e]] w (RdOne w r a cap L s 7) := by
  have flt : (∀ wx, Below w.heap.size w wx → Calls Tryd.prog 45 #[.pointer (some ⟨r, 0, none⟩), .int .i64 m] wx fun x w1 => x = .returned (.slice none 0 0) ∧ K.Flt wx w1 92 r a cap L s) → Calls Tryd.prog 11 #[.pointer (some ⟨r, 0, none⟩), .agg #[.int .i64 7, .int .u64 u, .int .i64 m, .int .i64 e]] w (RdOne w r a cap L s 7) := fun hc => by
    refine (read_7 (some ⟨r, 0, none⟩) u m e w (fun v wx w1 => v = .slice none 0 0 ∧ K.Flt wx w1 92 r a cap L s) (fun wx bx _ => (hc wx bx).mono fun x w1 k => ⟨none, 0, 0, k.1, ⟨rfl, k.2⟩, by obtain ⟨s', _, _, on⟩ := k.2; exact keep_on' h on⟩)).mono ?_
    rintro x w' ⟨a', n', c', rfl, wx, w1, q1, q2, ⟨q3, s', f1, f2, f3⟩, q4⟩
    rw [q3]
    refine ⟨oz, [], [], s', rfl, rdd_on h ⟨wx, w1, q1, q2, f3, q4⟩, gdz (by decide), .inr ⟨f1, ?_⟩⟩
    rw [enc7]
    show (K.vint 0 ++ []).length ≤ 40
    rw [vint0]; decide
  by_cases hb : s.bad = 0
  · by_cases hf : K.Fits L s.k m 1
    · have hmn : (m.toNat : Int) = m := by have := hf.2.1; omega
      have hq := fits_cnt hf
      have hE : K.rRaw L m.toNat s = (K.cut L (s.k + (K.num L s.k).size) (K.num L s.k).v, ⟨s.k + (K.num L s.k).size + (K.num L s.k).v, s.bad, s.wh⟩) := by
        unfold K.rRaw
        rw [if_pos hb, hq]
      have hl : (K.cut L (s.k + (K.num L s.k).size) (K.num L s.k).v).length = (K.num L s.k).v := K.cut_len _ _ _ (by have := hf.2.2.2; omega)
      have key : ∀ wx, Below w.heap.size w wx → wx.heap.size = w.heap.size + 3 → Calls Tryd.prog 45 #[.pointer (some ⟨r, 0, none⟩), .int .i64 m] wx fun x w1 => ∃ a' n' c', x = .returned (.slice a' n' c') ∧ (n' = (K.num L s.k).v ∧ K.On wx w1 92 r a cap L ⟨s.k + (K.num L s.k).size + (K.num L s.k).v, s.bad, s.wh⟩ ∧ K.Byt w1 a' (K.cut L (s.k + (K.num L s.k).size) (K.num L s.k).v) ∧ ∀ ad, a' = some ad → w.heap.size + 3 ≤ ad.block ∧ ad.block < w1.heap.size) := fun wx bx sx => by
        have := K.raw_any m.toNat (by omega) wx (RD_b h bx)
        rw [hmn, hE] at this
        refine this.mono fun x w1 ⟨v, base, e1, e2, own, on⟩ => ?_
        obtain ⟨a', c', rfl, _, hby, _⟩ := own.open
        refine ⟨a', _, c', e1, hl, on, hby, fun ad had => ?_⟩
        rcases own.2 with ⟨e3, _⟩ | ⟨g, cap', cur, e3, hbg, hg, _⟩
        · simp only [Value.slice.injEq] at e3
          rw [e3.1] at had
          cases had
        · simp only [Value.slice.injEq] at e3
          rw [e3.1] at had
          cases had
          exact ⟨by show w.heap.size + 3 ≤ g; omega, (Array.getElem?_eq_some_iff.1 hg).1⟩
      refine (read_7 (some ⟨r, 0, none⟩) u m e w (fun v wx w1 => ∃ a' n' c', v = .slice a' n' c' ∧ n' = (K.num L s.k).v ∧ K.On wx w1 92 r a cap L ⟨s.k + (K.num L s.k).size + (K.num L s.k).v, s.bad, s.wh⟩ ∧ K.Byt w1 a' (K.cut L (s.k + (K.num L s.k).size) (K.num L s.k).v) ∧ ∀ ad, a' = some ad → w.heap.size + 3 ≤ ad.block ∧ ad.block < w1.heap.size) (fun wx bx sx => (key wx bx sx).mono fun x w1 ⟨a', n', c', e1, e2⟩ => ⟨a', n', c', e1, ⟨a', n', c', rfl, e2⟩, keep_on' h e2.2.1⟩)).mono ?_
      rintro x w' ⟨a1, n1, c1, rfl, wx, w1, q1, q2, ⟨a', n', c', q3, q5, q6, q7, q8⟩, q4⟩
      cases q3
      have hz := q4.size
      refine ⟨{ oz with ra := a1, rn := n1, rc := c1 }, K.cut L (s.k + (K.num L s.k).size) (K.num L s.k).v, [], _, rfl, rdd_on h ⟨wx, w1, q1, q2, q6, q4⟩, ⟨z32_len, by show (0 : Nat) < _; decide, by show _ ≤ (0 : Int); decide, by show (0 : Int) < _; decide, by show (0 : Nat) < _; decide, by show (0 : Int) ≤ 0; decide, by show (0 : Int) ≤ _; decide, by show _ = n1; rw [q5, hl], byt_fx q4 q7 (fun ad h => (q8 ad h).1), fun ad h => ⟨by have := (q8 ad h).1; omega, by rw [hz]; exact (q8 ad h).2⟩, fun x h => (by cases h), rfl, .inl rfl, fun ad e => (by cases e), srise_nil, fun h => by omega, fun h => by omega, rfl, by show n1 ≤ _; have := h.few; have := hf.2.2.2; omega, by show (0 : Nat) ≤ _; omega, by show (0 : Nat) ≤ _; omega⟩, ?_⟩
      rw [enc7]
      show Rel L s _ (K.vint n1 ++ _)
      rw [q5]
      exact cnt_rel hf hb
    · exact flt (fun wx bx => K.raw_no m hm0 hm wx (RD_b h bx) hb hf)
  · exact flt (fun wx bx => K.raw_stop m wx (RD_b h bx) hb)
theorem rd9 (u m e : Int) (hm0 : -9223372036854775808 ≤ m) (hm : m < 9223372036854775808) (w : World) (h : K.RD w 92 r a cap L s) : Calls Tryd.prog 11 #[.pointer (some ⟨r, 0, none⟩), .agg #[.int .i64 9, .int .u64 u, .int .i64 m, .int .i64 e]] w (RdOne w r a cap L s 9) := by
  have fin : ∀ {x : Ending} {w' : World}, (∃ s' : K.St, s'.bad ≠ 0 ∧ x = .returned (.agg oz.g) ∧ K.On w w' 92 r a cap L s') → RdOne w r a cap L s 9 x w' := fun ⟨s', f1, e1, on⟩ => by
    refine ⟨oz, [], [], s', e1, on, gdz (by decide), .inr ⟨f1, ?_⟩⟩
    rw [enc9]
    show (K.vint 0 ++ []).length ≤ 40
    rw [vint0]; decide
  have flt : (∀ wx, Below w.heap.size w wx → Calls Tryd.prog 47 #[.pointer (some ⟨r, 0, none⟩), .int .i64 m] wx fun x w1 => x = .returned (.slice none 0 0) ∧ K.Flt wx w1 92 r a cap L s) → Calls Tryd.prog 11 #[.pointer (some ⟨r, 0, none⟩), .agg #[.int .i64 9, .int .u64 u, .int .i64 m, .int .i64 e]] w (RdOne w r a cap L s 9) := fun hc => by
    refine (read_9 (some ⟨r, 0, none⟩) u m e w (fun v wx w1 => v = .slice none 0 0 ∧ K.Flt wx w1 92 r a cap L s) (fun wx bx _ => (hc wx bx).mono fun x w1 k => ⟨none, 0, 0, k.1, ⟨rfl, k.2⟩, by obtain ⟨s', _, _, on⟩ := k.2; exact keep_on' h on⟩)).mono ?_
    rintro x w' ⟨a', n', c', rfl, wx, w1, q1, q2, ⟨q3, s', f1, f2, f3⟩, q4⟩
    rw [q3]
    exact fin ⟨s', f1, rfl, rdd_on h ⟨wx, w1, q1, q2, f3, q4⟩⟩
  by_cases hb : s.bad = 0
  · by_cases hf : K.Fits L s.k m 32
    · have hmn : (m.toNat : Int) = m := by have := hf.2.1; omega
      obtain ⟨h1, h2, h3, h4⟩ := hf
      obtain ⟨q1, q2⟩ := K.num_canon L s.k h1
      have hnum : K.num L s.k = ⟨(K.num L s.k).v, (K.num L s.k).size, 0, (K.num L s.k).place⟩ := by
        rw [← h1]
      have key : ∀ wx, Below w.heap.size w wx → wx.heap.size = w.heap.size + 3 → Calls Tryd.prog 47 #[.pointer (some ⟨r, 0, none⟩), .int .i64 m] wx fun x w1 => ∃ a' n' c', x = .returned (.slice a' n' c') ∧ (fun v wx w1 => (∃ q, v = .slice (some ⟨q, 0, none⟩) (K.num L s.k).v (K.num L s.k).v ∧ w.heap.size + 3 ≤ q ∧ q < w1.heap.size ∧ Hs w1 q 0 (dch L (s.k + (K.num L s.k).size) (K.num L s.k).v) ∧ SRise (dch L (s.k + (K.num L s.k).size) (K.num L s.k).v) ∧ K.On wx w1 92 r a cap L ⟨s.k + (K.num L s.k).size + (K.num L s.k).v * 32, s.bad, s.wh⟩) ∨ (v = .slice none 0 0 ∧ K.Flt wx w1 92 r a cap L s)) (.slice a' n' c' : Value) wx w1 ∧ Keeps w.heap.size wx w1 := fun wx bx sx => by
        have := rhashes_gen m.toNat (by omega) wx (RD_b h bx) hb _ _ _ hnum (by omega) h4
        rw [hmn] at this
        refine this.mono fun x w1 hx => ?_
        rcases hx with ⟨q, e1, e2, e3, e4, e5, on⟩ | ⟨e1, fl⟩
        · exact ⟨_, _, _, e1, .inl ⟨q, rfl, by omega, e3, e4, e5, on⟩, keep_on' h on⟩
        · exact ⟨_, _, _, e1, .inr ⟨rfl, fl⟩, by obtain ⟨s', _, _, on⟩ := fl; exact keep_on' h on⟩
      refine (read_9 (some ⟨r, 0, none⟩) u m e w (fun v wx w1 => (∃ q, v = .slice (some ⟨q, 0, none⟩) (K.num L s.k).v (K.num L s.k).v ∧ w.heap.size + 3 ≤ q ∧ q < w1.heap.size ∧ Hs w1 q 0 (dch L (s.k + (K.num L s.k).size) (K.num L s.k).v) ∧ SRise (dch L (s.k + (K.num L s.k).size) (K.num L s.k).v) ∧ K.On wx w1 92 r a cap L ⟨s.k + (K.num L s.k).size + (K.num L s.k).v * 32, s.bad, s.wh⟩) ∨ (v = .slice none 0 0 ∧ K.Flt wx w1 92 r a cap L s)) key).mono ?_
      rintro x w' ⟨a1, n1, c1, rfl, wx, w1, g1, g2, hx, g4⟩
      rcases hx with ⟨q, e1, e2, e3, e4, e5, on⟩ | ⟨e1, s', f1, f2, f3⟩
      · cases e1
        have hz := g4.size
        have h32 := dch_32 L (s.k + (K.num L s.k).size) (K.num L s.k).v h4
        refine ⟨{ oz with la := some ⟨q, 0, none⟩, ln := (K.num L s.k).v, lc := (K.num L s.k).v }, [], dch L (s.k + (K.num L s.k).size) (K.num L s.k).v, _, rfl, rdd_on h ⟨wx, w1, g1, g2, on, g4⟩, ⟨z32_len, by show (0 : Nat) < _; decide, by show _ ≤ (0 : Int); decide, by show (0 : Int) < _; decide, by show (0 : Nat) < _; decide, by show (0 : Int) ≤ 0; decide, by show (0 : Int) ≤ _; decide, rfl, .inl rfl, fun ad e => (by cases e), h32, dch_len _ _ _, .inr ⟨q, 0, rfl, hs_fx g4 e4 e2⟩, fun ad h => (by cases h; exact ⟨by show w.heap.size ≤ q; omega, by show q < _; omega⟩), e5, fun h => by omega, fun h => by omega, rfl, by show (0 : Nat) ≤ _; omega, by show (K.num L s.k).v ≤ _; have := h.few; omega, by show (0 : Nat) ≤ _; omega⟩, ?_⟩
        rw [enc9]
        have hE : hw (dch L (s.k + (K.num L s.k).size) (K.num L s.k).v) = K.vint (K.num L s.k).v ++ K.cut L (s.k + (K.num L s.k).size) ((K.num L s.k).v * 32) := by
          unfold hw
          rw [dch_len, dch_cat _ _ _ h4]
          rfl
        have hl : (hw (dch L (s.k + (K.num L s.k).size) (K.num L s.k).v)).length = (K.num L s.k).size + (K.num L s.k).v * 32 := by
          rw [hE, List.length_append, K.cut_len _ _ _ h4, ← q1]
        refine .inl ⟨hb, hb, ?_, ?_, h4⟩
        · show s.k + _ + _ = _
          rw [hl]; omega
        · rw [hl, hE]
          exact K.num_cut L s.k _ h1
      · rw [e1]
        exact fin ⟨s', f1, rfl, rdd_on h ⟨wx, w1, g1, g2, f3, g4⟩⟩
    · exact flt (fun wx bx => K.hashes_no m hm0 hm wx (RD_b h bx) hb hf)
  · exact flt (fun wx bx => K.hashes_stop m wx (RD_b h bx) hb)
/-- A read of whatever kind but 10. -/
theorem rd_one (k u m e : Int) (hk10 : k ≠ 10) (hu0 : 0 ≤ u) (hu : u < 18446744073709551616) (hm0 : -9223372036854775808 ≤ m) (hm : m < 9223372036854775808) (w : World) (hT : K.Tabs w) (hr : ∀ wx, Below w.heap.size w wx → 0 ≠ r ∧ 1 ≠ r) (h : K.RD w 92 r a cap L s) : Calls Tryd.prog 11 #[.pointer (some ⟨r, 0, none⟩), .agg #[.int .i64 k, .int .u64 u, .int .i64 m, .int .i64 e]] w (RdOne w r a cap L s k) := by
  by_cases hk : k < 0 ∨ 10 < k
  · exact rdno k u m e hk w h
  · have : k = 0 ∨ k = 1 ∨ k = 2 ∨ k = 3 ∨ k = 4 ∨ k = 5 ∨ k = 6 ∨ k = 7 ∨ k = 8 ∨ k = 9 := by omega
    rcases this with e | e | e | e | e | e | e | e | e | e <;> subst e
    · exact rd0 u m _ w h
    · exact rd1 u m _ w h
    · exact rd2 u m _ w h
    · have hun : (u.toNat : Int) = u := by omega
      have := rd3 u.toNat (by omega) m ‹_› w h
      rw [hun] at this
      exact this
    · exact rd4 u m _ w h
    · exact rd5 u m _ w h
    · exact rd6 u m _ hm0 hm w hT hr h
    · exact rd7 u m _ hm0 hm w h
    · exact rd8 u m _ w h
    · exact rd9 u m _ hm0 hm w h
end Go.Proofs.YtbpmpcmmdiaiiaaDoor

namespace Go.Proofs.YtbpmpcmmdiaiiaaDoor
open Go.RowKit
set_option linter.unusedVariables false
set_option linter.unusedSimpArgs false

variable {p : Nat} {g : Option Nat} {M : List UInt8}
theorem wdd_wr {w w' : World} {T : TypeId} {M' : List UInt8} {e' : Int} (h : Wdd w (fun wx w1 => K.Wr wx w1 T p g M' e') w') : K.Wr w w' T p g M' e' := by
  obtain ⟨wx, b, _, q⟩ := h
  exact K.Wr.pre b q
theorem wee_wr {w w' : World} {T : TypeId} {M' : List UInt8} {e e' : Int} (hw : K.WS w T p g M e) (h : Wee w (fun wx w1 => K.Wr wx w1 T p g M' e') w') : K.Wr w w' T p g M' e' := by
  obtain ⟨wx, w1, b, hz, ⟨g', ws, fr, nw⟩, f⟩ := h
  have hp := hw.lt
  have hb := b.size
  have hf := fr.size
  have hg' : ∀ k, g' = some k → k ≠ w.heap.size + 1 := fun k hk => by
    rcases nw with e | ⟨x, e, hx⟩
    · have := hw.glt (e.symm.trans hk); omega
    · rw [e] at hk; cases hk; omega
  obtain ⟨v, h1, h2, h3⟩ := ws.ex
  refine ⟨g', ⟨⟨v, ?_, ?_, h3⟩, ws.ne⟩, ⟨f.os.trans (fr.os.trans b.os), f.tape.trans (fr.tape.trans b.tape), f.output.trans (fr.output.trans b.output), by have := f.size; omega, fun k hk hkp hkg => ?_⟩, ?_⟩
  · rw [f.block p (by omega) (by omega)]; exact h1
  · refine ⟨h2.1, ?_⟩
    rcases h2.2 with hn | ⟨q, cap, cur, rfl, hbg, hg, rest⟩
    · exact .inl hn
    · refine .inr ⟨q, cap, cur, rfl, hbg, ?_, rest⟩
      have hq1 := (Array.getElem?_eq_some_iff.1 hg).1
      rw [f.block q (hg' q (h3.symm.trans rfl)) hq1]
      exact hg
  · rw [f.block k (by omega) (by omega), fr.block k (by omega) hkp hkg, b.block k hk]
  · rcases nw with e | ⟨x, e, hx⟩
    · exact .inl e
    · exact .inr ⟨x, e, by omega⟩
theorem keeps_wr {w wx w1 : World} {T : TypeId} {e e' : Int} {M' : List UInt8} (hw : K.WS w T p g M e) (h : K.Wr wx w1 T p g M' e') : Keeps w.heap.size wx w1 := by
  obtain ⟨g', ws, fr, nw⟩ := h
  exact ⟨fr.size, fun k hk hk2 => fr.block k hk2 (by have := hw.lt; omega) (fun e => by have := hw.glt e.symm; omega)⟩
theorem hl_frw {w w' : World} {a : Option Addr} {D : List (List UInt8)} (f : K.FrW p g w w') (hD : All32 D) (hp : ∀ ad, a = some ad → ad.block ≠ p ∧ some ad.block ≠ g) (h : Hl w a D) : Hl w' a D := by
  rcases h with rfl | ⟨b, off, rfl, hs⟩
  · exact .inl rfl
  · obtain ⟨h1, h2⟩ := hp _ rfl
    refine .inr ⟨b, off, rfl, fun i x e j v hv => ?_⟩
    have hc := hs i x e j v hv
    exact (World.cell?_of_block (f.block b (World.block_lt_of_cell? _ _ hc) h1 h2)).trans hc
theorem byt_row {w : World} {q : Nat} {R : List UInt8} (h : w.heap[q]? = some (.cells (bs (R ++ K.marks)) 5 (0, 0))) : K.Byt w (some ⟨q, 0, none⟩) R :=
  .inr ⟨q, 0, rfl, fun j hj => by
    rw [Nat.zero_add, cell_of_row w q j _ _ _ h]
    have := K.bs_get (R ++ K.marks) j (by simp; omega)
    rw [K.own_at R j hj] at this
    exact this⟩
theorem nW {w : World} {T : TypeId} {e : Int} {z : Nat} (hgz : ∀ k, g = some k → k < z) (hpz : p < z) {a : Option Addr} (h : ∀ ad, a = some ad → z ≤ ad.block) : ∀ ad, a = some ad → ad.block ≠ p ∧ some ad.block ≠ g := fun ad had => ⟨by have := h ad had; omega, fun e => by have := hgz _ e.symm; have := h ad had; omega⟩
set_option maxHeartbeats 1000000 in
/-- A write of whatever was read. -/
theorem wr_one (kd : Int) (hk10 : kd ≠ 10) (o : OpV) (R : List UInt8) (D : List (List UInt8)) (w : World) (z : Nat) (ok : GdO w z kd o R D) (hw : K.WS w 50 p g M 0) (hgz : ∀ k, g = some k → k < z) (hpz : p < z) (hT : K.Tabs w)
    (hsum : M.length + 64 + (enc kd o R D).length ≤ 140737488351232) :
    Calls Tryd.prog 7 #[.pointer (some ⟨p, 0, none⟩), .agg (o.c kd)] w fun x w' => x = .returned (.bool true) ∧ K.Wr w w' 50 p g (M ++ enc kd o R D) 0 := by
  have fin : ∀ {E : List UInt8} {x : Ending} {w' : World}, enc kd o R D = E → (x = .returned (.bool true) ∧ Wdd w (fun wx w1 => K.Wr wx w1 50 p g (K.wA M 0 E) 0) w') → (x = .returned (.bool true) ∧ K.Wr w w' 50 p g (M ++ enc kd o R D) 0) := fun he h => ⟨h.1, by rw [he, ← K.wA_0]; exact wdd_wr h.2⟩
  have hl := hsum
  have hrn := ok.rle
  have hln := ok.lle
  have hsn := ok.sle
  by_cases hk : kd < 0 ∨ 10 < kd
  · have he : enc kd o R D = [] := by
      unfold enc
      rw [if_neg (by omega), if_neg (by omega), if_neg (by omega), if_neg (by omega), if_neg (by omega), if_neg (by omega), if_neg (by omega), if_neg (by omega), if_neg (by omega), if_neg (by omega)]
    refine (write_no (some ⟨p, 0, none⟩) o ok.hh kd hk w).mono ?_
    rintro x w' ⟨rfl, wx, b, _, q⟩
    rw [he, List.append_nil, q]
    exact ⟨rfl, K.Wr.pre b (hw.below b).wr⟩
  · have : kd = 0 ∨ kd = 1 ∨ kd = 2 ∨ kd = 3 ∨ kd = 4 ∨ kd = 5 ∨ kd = 6 ∨ kd = 7 ∨ kd = 8 ∨ kd = 9 := by omega
    rcases this with e | e | e | e | e | e | e | e | e | e <;> subst e
    · have b0 := ok.b0
      have b1 := ok.b1
      exact (write_0 _ o ok.hh w _ (fun wx bx _ => K.wbyte_any (UInt8.ofNat o.b.toNat) o.b (by rw [UInt8.toNat_ofNat']; omega) wx (hw.below bx) (by omega))).mono fun x w' h => fin (by unfold enc; rw [if_pos rfl]) h
    · exact (write_1 _ o ok.hh w _ (fun wx bx _ => K.wbool_any o.v wx (hw.below bx) (by omega))).mono fun x w' h => fin (by unfold enc; rw [if_neg (by decide), if_pos rfl]) h
    · refine (write_2 _ o ok.hh w _ (fun wx bx _ => ?_)).mono fun x w' h => fin (E := K.b4 (o.u % 4294967296)) (by unfold enc; rw [if_neg (by decide), if_neg (by decide), if_pos rfl]) h
      have := K.wfix_any (o.u % 4294967296) (by omega) wx (hw.below bx) (by omega)
      rw [show ((o.u % 4294967296 : Nat) : Int) = (o.u : Int) % 4294967296 by omega] at this
      exact this
    · exact (write_3 _ o ok.hh w _ (fun wx bx _ => K.wuint_any o.u ok.u wx (hw.below bx) (by omega))).mono fun x w' h => fin (by unfold enc; rw [if_neg (by decide), if_neg (by decide), if_neg (by decide), if_pos rfl]) h
    · exact (write_4 _ o ok.hh w _ (fun wx bx _ => K.wint_any o.n ok.n0 ok.n1 wx (hw.below bx) (by omega))).mono fun x w' h => fin (by unfold enc; rw [if_neg (by decide), if_neg (by decide), if_neg (by decide), if_neg (by decide), if_pos rfl]) h
    · exact (write_5 _ o ok.hh w _ (fun wx bx _ => K.wfloat_any o.f ok.f (ok.fin rfl) wx (hw.below bx) (by omega))).mono fun x w' h => fin (by unfold enc; rw [if_neg (by decide), if_neg (by decide), if_neg (by decide), if_neg (by decide), if_neg (by decide), if_pos rfl]) h
    · rw [enc6, List.length_append] at hl
      have hsl : o.s.data.toList.length = o.s.size := by simp
      exact (write_6 _ o ok.hh w _ (fun wx bx _ => K.wtext_any o.s (by omega) (ok.val rfl) wx (hw.below bx) (hT.below bx) (by omega))).mono fun x w' h => fin (enc6 _ _ _) h
    · rw [enc7, List.length_append] at hl
      refine (write_7 _ o ok.hh R ok.r hrn w ok.rb (fun wx w1 => K.Wr wx w1 50 p g (K.wA M 0 (K.vint o.rn ++ R)) 0) (fun wx bx hz hrow => ?_)).mono fun x w' h => ⟨h.1, by rw [enc7, ← K.wA_0]; exact wee_wr hw h.2⟩
      have hlp := hw.lt
      refine (K.wraw_any R (some ⟨w.heap.size + 1, 0, none⟩) o.rn (o.rn + 9) wx (hw.below bx) ok.r (byt_row hrow) (fun ad e => by cases e; exact ⟨by show w.heap.size + 1 ≠ p; omega, fun e => by have h9 : w.heap.size + 1 < w.heap.size := hw.glt e.symm; omega⟩) (fun ad e => by cases e; exact hz) (by omega)).mono fun x w1 h => ⟨h.1, h.2, keeps_wr hw h.2, ?_⟩
      obtain ⟨g', ws, fr, nw⟩ := h.2
      exact fr.byt (nW (w := w) (T := 0) (e := 0) hgz hpz (fun ad e => (ok.rz ad e).1)) (K.byt_below ok.rb bx)
    · have hh := ok.hh
      exact (write_8 _ o ok.hh w _ (fun wx bx _ => whash_any o.h ok.hh wx (hw.below bx) (by omega))).mono fun x w' h => fin (by unfold enc; rw [if_neg (by decide), if_neg (by decide), if_neg (by decide), if_neg (by decide), if_neg (by decide), if_neg (by decide), if_neg (by decide), if_neg (by decide), if_pos rfl]) h
    · rw [enc9] at hl
      have hll : (Go.Proofs.YtbpmpcmmdiaiiaaDoor.hw D).length = (K.vint D.length).length + 32 * D.length := by unfold Go.Proofs.YtbpmpcmmdiaiiaaDoor.hw; rw [List.length_append, cat_len ok.d32]
      have hd := ok.d
      refine (write_9 _ o ok.hh D ok.d32 ok.d hln w ok.dl (fun wx w1 => K.Wr wx w1 50 p g (M ++ Go.Proofs.YtbpmpcmmdiaiiaaDoor.hw D) 0) (fun wx bx hz hs => ?_)).mono fun x w' h => ⟨h.1, by rw [enc9]; exact wee_wr hw h.2⟩
      have := whashes_gen ⟨w.heap.size + 1, 0, none⟩ D (o.ln + 9) wx ok.d32 (by omega) (.inr ⟨_, _, rfl, hs⟩) (hw.below bx) (by omega)
      rw [hd] at this
      refine this.mono fun x w1 h => ?_
      obtain ⟨h1, D', ⟨s1, s2, s3⟩, _, wr⟩ := h
      obtain rfl : D' = D := SRise.unique D' D s2 s1 ok.dr s3
      refine ⟨h1, wr, keeps_wr hw wr, ?_⟩
      obtain ⟨g', ws, fr, nw⟩ := wr
      exact hl_frw fr ok.d32 (nW (w := w) (T := 0) (e := 0) hgz hpz (fun ad e => (ok.dz ad e).1)) (ok.dl.below ok.d32 bx)
theorem GdO.below {w w' : World} {z : Nat} {kd : Int} {o : OpV} {R : List UInt8} {D : List (List UInt8)} (h : GdO w z kd o R D) (hb : Below w.heap.size w w') : GdO w' z kd o R D :=
  ⟨h.hh, h.u, h.n0, h.n1, h.f, h.b0, h.b1, h.r, K.byt_below h.rb hb, fun ad e => ⟨(h.rz ad e).1, Nat.lt_of_lt_of_le (h.rz ad e).2 hb.size⟩, h.d32, h.d, h.dl.below h.d32 hb, fun ad e => ⟨(h.dz ad e).1, Nat.lt_of_lt_of_le (h.dz ad e).2 hb.size⟩, h.dr, h.fin, h.val, h.e, h.rle, h.lle, h.sle⟩
/-- A Reader beside a Writer that goes on. -/
theorem RD_frw {w w' : World} {T : TypeId} {r cap : Nat} {a : Option Addr} {L : List UInt8} {s : K.St} (h : K.RD w T r a cap L s) (f : K.FrW p g w w') (h1 : r ≠ p) (h2 : some r ≠ g) (ha : ∀ ad, a = some ad → ad.block ≠ p ∧ some ad.block ≠ g) : K.RD w' T r a cap L s :=
  ⟨by rw [f.block r h.lt h1 h2]; exact h.row, h.room, f.byt ha h.byt, h.plain, h.at_le, h.few⟩
/-- A Writer beside a Reader that goes on. -/
theorem WS_fr {w w' : World} {T : TypeId} {r : Nat} {e : Int} (h : K.WS w T p g M e) (f : K.Fr r w w') (h1 : p ≠ r) (h2 : g ≠ some r) : K.WS w' T p g M e := by
  obtain ⟨v, q1, q2, q3⟩ := h.ex
  refine ⟨⟨v, by rw [f.block p h.lt h1]; exact q1, ⟨q2.1, ?_⟩, q3⟩, h.ne⟩
  rcases q2.2 with hn | ⟨q, cap, cur, rfl, hbg, hg, rest⟩
  · exact .inl hn
  · refine .inr ⟨q, cap, cur, rfl, hbg, ?_, rest⟩
    rw [f.block q (Array.getElem?_eq_some_iff.1 hg).1 (fun e => h2 (by rw [← q3, ← e]; rfl))]
    exact hg
end Go.Proofs.YtbpmpcmmdiaiiaaDoor

namespace Go.Proofs.YtbpmpcmmdiaiiaaDoor
open Go.RowKit
set_option linter.unusedVariables false
set_option linter.unusedSimpArgs false

namespace K
set_option maxHeartbeats 2000000 in
theorem clone_gen (ad : Addr) (n cap : Nat) (l : List UInt8) (w : World) (hl : l.length = n) (hn : n ≤ 140737488355328) (hb : Byt w (some ad) l) :
    Calls Tryd.prog 39 #[.slice (some ad) n cap] w fun e w' => ∃ v, e = .returned v ∧ OwnB w' w.heap.size v l ∧ Below w.heap.size w w' := by
  have hnil : ∀ W, (binOp .eql 29 (.slice (some ad) n cap) (.slice none 0 0)).run Tryd.prog W = .ok (.bool false) W := fun W => Lib.run_eql_slice_some_nil W _ _ _ Tryd.underlying29
  have O0 : Hid (OwnB (w.alloc (.cells #[] 5)) w.heap.size (.slice (some ⟨w.heap.size, 0, none⟩) 0 0) []) := ⟨rfl, .inr ⟨w.heap.size, 0, #[], rfl, Nat.le_refl _, heap_alloc_new _ _, by simp, by simp [maxLen], rfl, rfl⟩⟩
  have be0 : Below w.heap.size w (w.alloc (.cells #[] 5)) := (Below.refl _ _).alloc (Nat.le_refl _) _
  have B0 : Hid (Byt (w.alloc (.cells #[] 5)) (some ad) l) := byt_below hb be0
  have S0 : Hid (([] : List UInt8).length + l.length ≤ 140737488355328) := by show _ ≤ _; simp; omega
  have Z0 : Hid (w.heap.size ≤ (w.alloc (.cells #[] 5)).heap.size) := by show _ ≤ _; simp
  go_enter Tryd.func39, Tryd.ntmps39
  go_wp2_with (first | (at_builtin; refine wpList_app rfl (.tmp 5) (.tmp 6) rfl w.heap.size (.slice (some ⟨w.heap.size, 0, none⟩) 0 0) [] rfl O0.out (some ad) n cap l rfl hl B0.out S0.out Z0.out ?_) | fail)
  intro v w1 own1 grow1
  have be1 : Below w.heap.size w w1 := be0.grown grow1 Z0.out (fun k hk => (World.ownsRow.lt O0.out k hk).1)
  have OW : Hid (OwnB w1 w.heap.size v l) := by show OwnB _ _ _ _; simpa using own1
  clear own1 grow1 O0 B0 S0 Z0
  go_wp2
  go_ret
  exact ⟨v, rfl, OW.out, be1⟩
set_option maxRecDepth 100000 in
theorem clone_nil (w : World) : Calls Tryd.prog 39 #[.slice none 0 0] w fun e w' => ∃ v, e = .returned v ∧ OwnB w' w.heap.size v [] ∧ Below w.heap.size w w' := by
  have hnil : ∀ W, (binOp .eql 29 (.slice none 0 0) (.slice none 0 0)).run Tryd.prog W = .ok (.bool true) W := fun W => Lib.run_eql_slice_nil_nil W 0 0 Tryd.underlying29
  go_enter Tryd.func39, Tryd.ntmps39
  go_wp2
  go_ret
  exact ⟨_, rfl, ownB_nil _ _, Below.refl _ _⟩
theorem clone_all (a : Option Addr) (n cap : Nat) (l : List UInt8) (w : World) (hl : l.length = n) (hn : n ≤ 140737488355328) (ha : a = none → cap = 0) (hb : Byt w a l) :
    Calls Tryd.prog 39 #[.slice a n cap] w fun e w' => ∃ v, e = .returned v ∧ OwnB w' w.heap.size v l ∧ Below w.heap.size w w' := by
  cases a with
  | some ad => exact clone_gen ad n cap l w hl hn hb
  | none =>
    obtain rfl : l = [] := by
      rcases hb with rfl | ⟨b, off, e, _⟩
      · rfl
      · cases e
    rw [ha rfl, ← hl]
    exact clone_nil w
set_option maxRecDepth 100000 in
set_option maxHeartbeats 1000000 in
theorem new_gen (a0 : Option Addr) (n cap : Nat) (l : List UInt8) (w : World) (hl : l.length = n) (hn : n ≤ 140737488351232) (ha : a0 = none → cap = 0) (hb : Byt w a0 l) :
    Calls Tryd.prog 17 #[.slice a0 n cap] w fun e w' => ∃ r a c, e = .returned (.pointer (some ⟨r, 0, none⟩)) ∧ RD w' 92 r a c l ⟨0, 0, 0⟩ ∧ w.heap.size ≤ r ∧ Below w.heap.size w w' ∧ ∀ ad, a = some ad → ad.block < w'.heap.size := by
  have HC : Hid (Calls Tryd.prog 39 #[.slice a0 n cap] w fun e w' => ∃ v, e = .returned v ∧ OwnB w' w.heap.size v l ∧ Below w.heap.size w w') := clone_all a0 n cap l w hl (by omega) ha hb
  clear hb
  go_enter Tryd.func17, Tryd.ntmps17
  go_wp2_with fail
  refine HC.out.mono ?_
  rintro e w1 ⟨v, rfl, own, b1⟩
  obtain ⟨a, c, rfl, rd, hp⟩ := rd_of_own (w := w1) (T := 92) own (by omega)
  have z1 := b1.size
  have HRD : Hid (RD (w1.alloc (.cells #[.slice a l.length c, .int .i64 0, .int .i64 0, .int .i64 0] 92)) 92 w1.heap.size a c l ⟨0, 0, 0⟩) := rd
  have B2 : Hid (Below w.heap.size w (w1.alloc (.cells #[.slice a l.length c, .int .i64 0, .int .i64 0, .int .i64 0] 92))) := b1.alloc (by omega) (.cells #[.slice a l.length c, .int .i64 0, .int .i64 0, .int .i64 0] 92)
  have HP : Hid (∀ ad, a = some ad → ad.block < (w1.alloc (.cells #[.slice a l.length c, .int .i64 0, .int .i64 0, .int .i64 0] 92)).heap.size) := fun ad e => by have := (hp ad e).2; simp; omega
  rw [hl] at HRD B2 HP
  clear own rd hp b1
  go_wp2
  go_ret
  exact ⟨_, a, c, rfl, HRD.out, z1, B2.out, HP.out⟩
end K
theorem list32 {α : Type} {l : List α} (h : l.length = 32) : ∃ x0 x1 x2 x3 x4 x5 x6 x7 x8 x9 x10 x11 x12 x13 x14 x15 x16 x17 x18 x19 x20 x21 x22 x23 x24 x25 x26 x27 x28 x29 x30 x31, l = [x0, x1, x2, x3, x4, x5, x6, x7, x8, x9, x10, x11, x12, x13, x14, x15, x16, x17, x18, x19, x20, x21, x22, x23, x24, x25, x26, x27, x28, x29, x30, x31] := by
  match l, h with
  | [x0, x1, x2, x3, x4, x5, x6, x7, x8, x9, x10, x11, x12, x13, x14, x15, x16, x17, x18, x19, x20, x21, x22, x23, x24, x25, x26, x27, x28, x29, x30, x31], _ => exact ⟨x0, x1, x2, x3, x4, x5, x6, x7, x8, x9, x10, x11, x12, x13, x14, x15, x16, x17, x18, x19, x20, x21, x22, x23, x24, x25, x26, x27, x28, x29, x30, x31, rfl⟩
set_option maxRecDepth 100000 in
set_option maxHeartbeats 2000000 in
/-- An Op built of its fields. -/
theorem built_op (kd : Int) (o : OpV) (hh : o.h.length = 32) (he : o.e = 0) : Tryd.prog.built 35 [(0, .int .i64 kd), (1, .int .u8 o.b), (2, .bool o.v), (3, .int .u64 (o.u : Int)), (4, .int .i64 o.n), (5, .float .f64 o.f), (6, .string o.s), (7, .slice o.ra o.rn o.rc), (8, .agg (bs o.h)), (9, .slice o.la o.ln o.lc)] = some (o.c kd) := by
  obtain ⟨b, v, u, n, f, s, ra, rn, rc, h, la, ln, lc, e⟩ := o
  simp only at hh he ⊢
  subst he
  obtain ⟨x0, x1, x2, x3, x4, x5, x6, x7, x8, x9, x10, x11, x12, x13, x14, x15, x16, x17, x18, x19, x20, x21, x22, x23, x24, x25, x26, x27, x28, x29, x30, x31, rfl⟩ := list32 hh
  kernel_rfl
end Go.Proofs.YtbpmpcmmdiaiiaaDoor

