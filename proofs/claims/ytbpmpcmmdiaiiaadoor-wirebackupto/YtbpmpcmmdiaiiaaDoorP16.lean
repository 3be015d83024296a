import Derived.Test.YtbpmpcmmdiaiiaaDoorP13
import Derived.Test.YtbpmpcmmdiaiiaaDoorP15
import Derived.Test.YtbpmpcmmdiaiiaaDoorP12
import Derived.Deep.DeepAppendWide
namespace Go.Proofs.YtbpmpcmmdiaiiaaDoor
open Go.RowKit
set_option linter.unusedVariables false
set_option linter.unusedSimpArgs false

namespace K
/-- A number of 64 bits is read as it was written. -/
theorem num_vint64 (len k : Nat) (t : List UInt8) : ∀ (f v i acc : Nat), v ≤ f → v * 2 ^ (7 * i) < 2 ^ 64 → (0 < i → 0 < v) → numL len k (vint v ++ t) i acc = ⟨acc + v * 2 ^ (7 * i), i + (vint v).length, 0, len⟩ := by
  intro f
  induction f with
  | zero =>
    intro v i acc hf hv h0
    obtain rfl : v = 0 := by omega
    have hi : i = 0 := by omega
    subst hi
    rw [vint_lt (by omega)]
    simp [numL]
  | succ f ih =>
    intro v i acc hf hv h0
    have h9 : i = 9 → v ≤ 1 := fun e => by
      subst e
      have : v * 2 ^ 63 < 2 * 2 ^ 63 := by simpa using hv
      have := Nat.lt_of_mul_lt_mul_right this
      omega
    by_cases h : v < 128
    · rw [vint_lt h]
      have e1 : (UInt8.ofNat v).toNat = v := by simp; omega
      simp only [List.cons_append, List.nil_append, numL, e1]
      rw [if_neg (by omega), if_pos h]
      simp
    · rw [vint_ge h]
      have e1 : (UInt8.ofNat (v % 128 + 128)).toNat = v % 128 + 128 := by simp; omega
      simp only [List.cons_append, numL, e1]
      rw [if_neg (by omega), if_neg (by omega), ih (v / 128) (i + 1) _ (by omega) ?_ (fun _ => by omega)]
      · have e2 : 2 ^ (7 * (i + 1)) = 128 * 2 ^ (7 * i) := by rw [Nat.mul_add, Nat.pow_add]; omega
        have e3 : v * 2 ^ (7 * i) = (v % 128) * 2 ^ (7 * i) + v / 128 * (128 * 2 ^ (7 * i)) := by
          rw [← Nat.mul_assoc, ← Nat.add_mul]
          congr 1
          omega
        rw [e2, e3, Nat.add_sub_cancel]
        simp only [List.length_cons, Num.mk.injEq, and_true]
        omega
      · have e2 : 2 ^ (7 * (i + 1)) = 128 * 2 ^ (7 * i) := by rw [Nat.mul_add, Nat.pow_add]; omega
        rw [e2, ← Nat.mul_assoc]
        exact Nat.lt_of_le_of_lt (Nat.mul_le_mul_right _ (by omega)) hv
variable {L : List UInt8} {k : Nat} {s : St}
theorem cut_two {A X : List UInt8} (hk : k + (A ++ X).length ≤ L.length) (hc : cut L k (A ++ X).length = A ++ X) : cut L k A.length = A ∧ cut L (k + A.length) X.length = X := by
  rw [List.length_append] at hk hc
  rw [cut_app] at hc
  exact List.append_inj hc (cut_len _ _ _ (by omega))
theorem num_at (u : Nat) (hu : u < 18446744073709551616) (hc : cut L k (vint u).length = vint u) : num L k = ⟨u, (vint u).length, 0, L.length⟩ := by
  have e : L.drop k = vint u ++ (L.drop k).drop (vint u).length := by
    conv => lhs; rw [← List.take_append_drop (vint u).length (L.drop k)]
    congr 1
  unfold num
  rw [e, num_vint64 _ _ _ u u 0 0 (Nat.le_refl _) (by simp; omega) (fun h => by omega)]
  simp
theorem b4_inj {x y : Nat} (hx : x < 4294967296) (hy : y < 4294967296) (h : b4 x = b4 y) : x = y := by
  have := congrArg (List.map UInt8.toNat) h
  simp [b4] at this
  omega
theorem b8_inj {x y : Nat} (hx : x < 18446744073709551616) (hy : y < 18446744073709551616) (h : b8 x = b8 y) : x = y := by
  unfold b8 at h
  obtain ⟨h1, h2⟩ := List.append_inj h rfl
  have e1 := b4_inj (by omega) (by omega) h1
  have e2 := b4_inj (by omega) (by omega) h2
  omega
theorem at_byte {b : Int} (h0 : 0 ≤ b) (h1 : b ≤ 255) (hb : s.bad = 0) (hk : s.k + 1 ≤ L.length) (hc : cut L s.k 1 = [UInt8.ofNat b.toNat]) : rByte L s = (b, ⟨s.k + 1, s.bad, s.wh⟩) := by
  unfold rByte
  rw [if_pos hb, if_pos hk]
  rw [cut_1 L s.k hk] at hc
  have : L.getD s.k 0 = UInt8.ofNat b.toNat := by simpa using hc
  unfold at8
  rw [this, UInt8.toNat_ofNat', show ((b.toNat % 2 ^ 8 : Nat) : Int) = b by omega]
theorem at_bool {v : Bool} (hb : s.bad = 0) (hk : s.k + 1 ≤ L.length) (hc : cut L s.k 1 = [if v = true then 1 else 0]) : rBool L s = (v, ⟨s.k + 1, s.bad, s.wh⟩) := by
  unfold rBool
  rw [if_pos hb, if_pos hk]
  rw [cut_1 L s.k hk] at hc
  have : L.getD s.k 0 = if v = true then 1 else 0 := by simpa using hc
  unfold at8
  rw [this]
  cases v <;> rfl
theorem at_float {f : Nat} (hf : f < 18446744073709551616) (hfin : finB f = true) (hb : s.bad = 0) (hk : s.k + 8 ≤ L.length) (hc : cut L s.k 8 = b8 f) : rFloat L s = (f, ⟨s.k + 8, s.bad, s.wh⟩) := by
  have hl := be_lt L s.k 8
  have e4 : (256 : Nat) ^ 8 = 18446744073709551616 := by decide
  rw [e4] at hl
  have : be L s.k 8 = f := b8_inj hl hf ((be_cut8 L s.k hk).trans hc)
  unfold rFloat
  rw [if_pos hb, if_pos hk, this, if_pos hfin]
theorem at_uint {u : Nat} (hu : u < 18446744073709551616) (most : Nat) (hm : u ≤ most) (hb : s.bad = 0) (hc : cut L s.k (vint u).length = vint u) : rUint L most s = (u, ⟨s.k + (vint u).length, s.bad, s.wh⟩) := by
  unfold rUint
  rw [if_pos hb, num_at u hu hc, if_pos rfl, if_pos hm]
theorem unzig_zig (n : Int) : unzig (zig n) = n := by
  unfold unzig zig
  split <;> split <;> omega
theorem zig_lt (n : Int) (h0 : -9223372036854775808 ≤ n) (h1 : n < 9223372036854775808) : zig n < 18446744073709551616 := by
  unfold zig
  split <;> omega
theorem at_int {n : Int} (h0 : -9223372036854775808 ≤ n) (h1 : n < 9223372036854775808) (hb : s.bad = 0) (hc : cut L s.k (vint (zig n)).length = vint (zig n)) : rInt L s = (n, ⟨s.k + (vint (zig n)).length, s.bad, s.wh⟩) := by
  have hz := zig_lt n h0 h1
  unfold rInt
  rw [at_uint hz _ (by omega) hb hc]
  simp only [unzig_zig]
theorem at_cnt {X : List UInt8} {n : Nat} (hX : X.length = n) (hn : n < 18446744073709551616) (hk : s.k + (vint n ++ X).length ≤ L.length) (hc : cut L s.k (vint n ++ X).length = vint n ++ X) : rCnt L n s = (some (n, (vint n).length), s) ∧ cut L (s.k + (vint n).length) n = X := by
  obtain ⟨h1, h2⟩ := cut_two hk hc
  rw [List.length_append] at hk
  unfold rCnt
  rw [num_at n hn h1, if_pos rfl, if_pos (Nat.le_refl _), if_pos (by simp only []; omega)]
  exact ⟨rfl, by rw [← hX]; rw [hX]; rwa [hX] at h2⟩
end K
theorem at_fix {n : Nat} {L : List UInt8} {s : K.St} (hn : n < 4294967296) (hb : s.bad = 0) (hk : s.k + 4 ≤ L.length) (hc : K.cut L s.k 4 = K.b4 n) : rFix L s = (n, ⟨s.k + 4, s.bad, s.wh⟩) := by
  have hl := K.be_lt L s.k 4
  have e4 : (256 : Nat) ^ 4 = 4294967296 := by decide
  rw [e4] at hl
  have : K.be L s.k 4 = n := K.b4_inj hl hn ((K.be_cut4 L s.k hk).trans hc)
  unfold rFix
  rw [if_pos hb, if_pos hk, this]
theorem at_hash {h L : List UInt8} {s : K.St} (hh : h.length = 32) (hb : s.bad = 0) (hk : s.k + 32 ≤ L.length) (hc : K.cut L s.k 32 = h) : rHash L s = (h, ⟨s.k + 32, s.bad, s.wh⟩) := by
  unfold rHash
  rw [if_pos hb, if_pos hk]
  unfold K.cut at hc
  rw [hc]
end Go.Proofs.YtbpmpcmmdiaiiaaDoor

namespace Go.Proofs.YtbpmpcmmdiaiiaaDoor
open Go.RowKit
set_option linter.unusedVariables false
set_option linter.unusedSimpArgs false

/-- A read's answer is what was written. -/
def ToldOk (W : World) (G : Array Value) (kd : Int) (o : OpV) : Prop := ∀ wx, Below W.heap.size W wx → Calls Tryd.prog 18 #[.agg G, .agg (o.c kd)] wx fun e w' => e = .returned (.bool true) ∧ Below wx.heap.size wx w'
theorem same_pl (b u n : Int) (v : Bool) (s : ByteArray) (h : List UInt8) (hh : h.length = 32) (w : World) : Calls Tryd.prog 10 #[.agg (gC (.int .u8 b) (.bool v) (.int .u64 u) (.int .i64 n) (.float .f64 0) (.string s) (.slice none 0 0) h (.slice none 0 0)), .agg (gC (.int .u8 b) (.bool v) (.int .u64 u) (.int .i64 n) (.float .f64 0) (.string s) (.slice none 0 0) h (.slice none 0 0))] w fun e w' => e = .returned (.bool true) ∧ Below w.heap.size w w' :=
  same_true b u n v 0 s none none 0 0 0 [] h none none 0 0 0 [] w rfl (by decide) (.inl rfl) (.inl rfl) hh (fun _ h => by cases h) rfl (by decide) (.inl rfl) (.inl rfl) (fun wx => sameV0 wx)
variable {r cap : Nat} {a : Option Addr} {B : List UInt8} {s : K.St}
/-- What a read of an Op answers. -/
def RdOp (w : World) (r : Nat) (a : Option Addr) (cap : Nat) (B : List UInt8) (s : K.St) (kd : Int) (o : OpV) (n : Nat) (x : Ending) (w' : World) : Prop :=
  ∃ G : Array Value, x = .returned (.agg G) ∧ G.size = 40 ∧ K.On w w' 92 r a cap B ⟨s.k + n, s.bad, s.wh⟩ ∧ ToldOk w' G kd o
theorem fr_below {W w w' : World} {r : Nat} (b : Below W.heap.size W w) (f : K.Fr r w w') (hr : W.heap.size ≤ r) : Below W.heap.size W w' :=
  { os := f.os.trans b.os, tape := f.tape.trans b.tape, output := f.output.trans b.output, size := Nat.le_trans b.size f.size, block := fun k hk => (f.block k (Nat.lt_of_lt_of_le hk b.size) (by omega)).trans (b.block k hk) }
set_option maxHeartbeats 1000000 in
/-- What was written of an Op is read. -/
theorem rd_op (W : World) (kd : Int) (o : OpV) (R : List UInt8) (L D : List (List UInt8)) (ok : OpL W o R L) (hD : Srt L D) (hDl : D.length ≤ L.length) (hs : sentB kd o = true) (w : World) (bw : Below W.heap.size W w) (hr : W.heap.size ≤ r) (hT : K.Tabs w) (hg : 0 ≠ r ∧ 1 ≠ r)
    (h : K.RD w 92 r a cap B s) (hb : s.bad = 0) (hk : s.k + (enc kd o.z R D).length ≤ B.length) (hc : K.cut B s.k (enc kd o.z R D).length = enc kd o.z R D) :
    Calls Tryd.prog 11 #[.pointer (some ⟨r, 0, none⟩), .agg #[.int .i64 kd, .int .u64 (o.u : Int), .int .i64 (mostOf kd o : Int), .int .i64 0]] w (RdOp w r a cap B s kd o (enc kd o.z R D).length) := by
  have hrn := ok.rl
  have hln := ok.ll
  have hsn := ok.s
  have hlr := ok.r
  have hl' := ok.l
  have hh := ok.hh
  have := sent_kind hs
  have : kd = 0 ∨ kd = 1 ∨ kd = 2 ∨ kd = 3 ∨ kd = 4 ∨ kd = 5 ∨ kd = 6 ∨ kd = 7 ∨ kd = 8 ∨ kd = 9 := by omega
  rcases this with e | e | e | e | e | e | e | e | e | e <;> subst e
  · have hE : enc 0 o.z R D = [UInt8.ofNat o.b.toNat] := by unfold enc; rw [if_pos rfl]; rfl
    rw [hE] at hk hc ⊢
    have hv := K.at_byte ok.b0 ok.b1 hb hk hc
    refine (read_0 (some ⟨r, 0, none⟩) _ _ _ o.b w (fun wx w1 => K.On wx w1 92 r a cap B ⟨s.k + 1, s.bad, s.wh⟩) (fun wx bx _ => ?_)).mono ?_
    · have := K.byte_any wx (RD_b h bx)
      rw [hv] at this
      exact this.mono fun x w1 k => ⟨k.1, k.2, keep_on' h k.2⟩
    · rintro x w' ⟨rfl, hd⟩
      exact ⟨_, rfl, gC_size z32_len, rdd_on h hd, fun wx bx => told_0 _ (gC_size z32_len) o hh wx (fun w2 _ => same_pl _ _ _ _ _ _ z32_len w2)⟩
  · have hE : enc 1 o.z R D = [if o.v = true then 1 else 0] := by unfold enc; rw [if_neg (by decide), if_pos rfl]; rfl
    rw [hE] at hk hc ⊢
    have hv := K.at_bool hb hk hc
    refine (read_1 (some ⟨r, 0, none⟩) _ _ _ o.v w (fun wx w1 => K.On wx w1 92 r a cap B ⟨s.k + 1, s.bad, s.wh⟩) (fun wx bx _ => ?_)).mono ?_
    · have := K.bool_any wx (RD_b h bx)
      rw [hv] at this
      exact this.mono fun x w1 k => ⟨k.1, k.2, keep_on' h k.2⟩
    · rintro x w' ⟨rfl, hd⟩
      exact ⟨_, rfl, gC_size z32_len, rdd_on h hd, fun wx bx => told_1 _ (gC_size z32_len) o hh wx (fun w2 _ => same_pl _ _ _ _ _ _ z32_len w2)⟩
  · have hE : enc 2 o.z R D = K.b4 (o.u % 4294967296) := by unfold enc; rw [if_neg (by decide), if_neg (by decide), if_pos rfl]; rfl
    rw [hE] at hk hc ⊢
    have hv := at_fix (by omega) hb hk hc
    refine (read_2 (some ⟨r, 0, none⟩) _ _ _ ((o.u % 4294967296 : Nat) : Int) (by omega) (by omega) w (fun wx w1 => K.On wx w1 92 r a cap B ⟨s.k + 4, s.bad, s.wh⟩) (fun wx bx _ => ?_)).mono ?_
    · have := rfix_any wx (RD_b h bx)
      rw [hv] at this
      exact this.mono fun x w1 k => ⟨k.1, k.2, keep_on' h k.2⟩
    · rintro x w' ⟨rfl, hd⟩
      exact ⟨_, rfl, gC_size z32_len, rdd_on h hd, fun wx bx => told_2 _ (gC_size z32_len) o hh wx (fun w2 _ => by
        rw [show ((o.u % 4294967296 : Nat) : Int) = (o.u : Int) % 4294967296 by omega]
        exact same_pl _ _ _ _ _ _ z32_len w2)⟩
  · have hE : enc 3 o.z R D = K.vint o.u := by unfold enc; rw [if_neg (by decide), if_neg (by decide), if_neg (by decide), if_pos rfl]; rfl
    rw [hE] at hk hc ⊢
    have hv := K.at_uint ok.u o.u (Nat.le_refl _) hb hc
    refine (read_3 (some ⟨r, 0, none⟩) _ _ _ (o.u : Int) w (fun wx w1 => K.On wx w1 92 r a cap B ⟨s.k + (K.vint o.u).length, s.bad, s.wh⟩) (fun wx bx _ => ?_)).mono ?_
    · have := K.uint_any o.u ok.u wx (RD_b h bx)
      rw [hv] at this
      exact this.mono fun x w1 k => ⟨k.1, k.2, keep_on' h k.2⟩
    · rintro x w' ⟨rfl, hd⟩
      exact ⟨_, rfl, gC_size z32_len, rdd_on h hd, fun wx bx => told_3 _ (gC_size z32_len) o hh wx (fun w2 _ => same_pl _ _ _ _ _ _ z32_len w2)⟩
  · have hE : enc 4 o.z R D = K.vint (K.zig o.n) := by unfold enc; rw [if_neg (by decide), if_neg (by decide), if_neg (by decide), if_neg (by decide), if_pos rfl]; rfl
    rw [hE] at hk hc ⊢
    have hv := K.at_int ok.n0 ok.n1 hb hc
    refine (read_4 (some ⟨r, 0, none⟩) _ _ _ o.n w (fun wx w1 => K.On wx w1 92 r a cap B ⟨s.k + (K.vint (K.zig o.n)).length, s.bad, s.wh⟩) (fun wx bx _ => ?_)).mono ?_
    · have := K.int_any wx (RD_b h bx)
      rw [hv] at this
      exact this.mono fun x w1 k => ⟨k.1, k.2, keep_on' h k.2⟩
    · rintro x w' ⟨rfl, hd⟩
      exact ⟨_, rfl, gC_size z32_len, rdd_on h hd, fun wx bx => told_4 _ (gC_size z32_len) o hh wx (fun w2 _ => same_pl _ _ _ _ _ _ z32_len w2)⟩
  · have hfn : K.finN o.f = true := by unfold sentB at hs; rwa [if_neg (by decide), if_pos rfl] at hs
    have hff : K.ffin o.f := by unfold K.finN at hfn; unfold K.ffin; simp at hfn; omega
    have hf64 := ok.f
    have hE : enc 5 o.z R D = K.b8 (nzf o.f) := by unfold enc; rw [if_neg (by decide), if_neg (by decide), if_neg (by decide), if_neg (by decide), if_neg (by decide), if_pos rfl]; rfl
    rw [hE] at hk hc ⊢
    have hfb : K.finB (nzf o.f) = true := by
      unfold nzf
      split
      · exact finB0
      · rename_i hz
        unfold K.finB; rw [hfn, decide_eq_true hz]; rfl
    have hv := K.at_float (by unfold nzf; split <;> omega) hfb hb hk hc
    refine (read_5 (some ⟨r, 0, none⟩) _ _ _ (nzf o.f) w (fun wx w1 => K.On wx w1 92 r a cap B ⟨s.k + 8, s.bad, s.wh⟩) (fun wx bx _ => ?_)).mono ?_
    · have := K.float_any wx (RD_b h bx)
      rw [hv] at this
      exact this.mono fun x w1 k => ⟨k.1, k.2, keep_on' h k.2⟩
    · rintro x w' ⟨rfl, hd⟩
      refine ⟨_, rfl, gC_size z32_len, rdd_on h hd, fun wx bx => ?_⟩
      by_cases hz : o.f % 9223372036854775808 = 0
      · have e0 : nzf o.f = 0 := by unfold nzf; split <;> omega
        rw [e0]
        refine told_z _ o hh ?_ wx rfl rfl
        have : o.f = 0 ∨ o.f = 9223372036854775808 := by omega
        rcases this with e | e <;> rw [e] <;> decide +kernel
      · have e0 : nzf o.f = o.f := by unfold nzf; rw [if_neg (by omega)]
        have z3 : (FloatKind.f64.format.order o.f 0 == some .eq) = false := by
          have : (FloatKind.f64.format.order o.f 0 != some .eq) = true := K.ford_zero o.f hff hz
          simpa [bne] using this
        have z1 : (FloatKind.f64.format.order o.f o.f == some .eq) = true := by
          have : FloatKind.f64.format.order o.f o.f = some .eq := K.ford_self o.f hff
          rw [this]; rfl
        rw [e0]
        exact told_5 _ (gC_size z32_len) o hh z3 wx (fun w2 _ => same_true 0 0 0 false o.f ⟨#[]⟩ none none 0 0 0 [] z32 none none 0 0 0 [] w2 rfl (by decide) (.inl rfl) (.inl rfl) z32_len (fun _ h => by cases h) rfl (by decide) (.inl rfl) (.inl rfl) (fun wx => sameVn o.f z1 z3 wx))
  · have hsl : o.s.data.toList.length = o.s.size := by simp
    have hgood : K.good o.s.data.toList = o.s.size := by unfold sentB at hs; rw [if_pos rfl] at hs; exact of_decide_eq_true hs
    have hE : enc 6 o.z R D = K.vint o.s.size ++ o.s.data.toList := enc6 _ _ _
    rw [hE] at hk hc ⊢
    obtain ⟨c1, c2⟩ := K.at_cnt hsl (by omega) hk hc
    have hv : K.rText B o.s.size s = (o.s.data.toList, ⟨s.k + (K.vint o.s.size).length + o.s.size, s.bad, s.wh⟩) := by
      unfold K.rText
      rw [if_pos hb, c1]
      simp only []
      rw [c2, if_neg (by omega)]
    have hm : mostOf 6 o = o.s.size := by unfold mostOf; rw [if_pos rfl]
    rw [hm, List.length_append, hsl]
    refine (read_6 (some ⟨r, 0, none⟩) _ _ _ o.s w (fun wx w1 => K.On wx w1 92 r a cap B ⟨s.k + (K.vint o.s.size).length + o.s.size, s.bad, s.wh⟩) (fun wx bx _ => ?_)).mono ?_
    · have := K.text_any o.s.size (by omega) wx (RD_b h bx) (hT.below bx) hg
      rw [hv] at this
      exact this.mono fun x w1 k => ⟨k.1, k.2, keep_on' h k.2⟩
    · rintro x w' ⟨rfl, hd⟩
      refine ⟨_, rfl, gC_size z32_len, ?_, fun wx bx => told_6 _ (gC_size z32_len) o hh wx (fun w2 _ => same_pl _ _ _ _ _ _ z32_len w2)⟩
      rw [← Nat.add_assoc]
      exact rdd_on h hd
  · have hE : enc 7 o.z R D = K.vint o.rn ++ R := enc7 _ _ _
    rw [hE] at hk hc ⊢
    obtain ⟨c1, c2⟩ := K.at_cnt hlr (by omega) hk hc
    have hv : K.rRaw B o.rn s = (R, ⟨s.k + (K.vint o.rn).length + o.rn, s.bad, s.wh⟩) := by
      unfold K.rRaw
      rw [if_pos hb, c1]
      simp only []
      rw [c2]
    have hm : mostOf 7 o = o.rn := by unfold mostOf; rw [if_neg (by decide), if_pos rfl]
    rw [hm, List.length_append, hlr]
    have key : ∀ wx, Below w.heap.size w wx → wx.heap.size = w.heap.size + 3 → Calls Tryd.prog 45 #[.pointer (some ⟨r, 0, none⟩), .int .i64 (o.rn : Int)] wx fun x w1 => ∃ a' n' c', x = .returned (.slice a' n' c') ∧ (n' = o.rn ∧ K.On wx w1 92 r a cap B ⟨s.k + (K.vint o.rn).length + o.rn, s.bad, s.wh⟩ ∧ K.Byt w1 a' R ∧ ∀ ad, a' = some ad → w.heap.size + 3 ≤ ad.block ∧ ad.block < w1.heap.size) := fun wx bx sx => by
      have := K.raw_any o.rn (by omega) wx (RD_b h bx)
      rw [hv] at this
      refine this.mono fun x w1 ⟨v, base, e1, e2, own, on⟩ => ?_
      obtain ⟨a', c', rfl, _, hby, _⟩ := own.open
      refine ⟨a', _, c', e1, hlr, on, hby, fun ad had => ?_⟩
      rcases own.2 with ⟨e3, _⟩ | ⟨g, cap', cur, e3, hbg, hg, _⟩
      · simp only [Value.slice.injEq] at e3
        rw [e3.1] at had
        cases had
      · simp only [Value.slice.injEq] at e3
        rw [e3.1] at had
        cases had
        exact ⟨by show w.heap.size + 3 ≤ g; omega, (Array.getElem?_eq_some_iff.1 hg).1⟩
    refine (read_7 (some ⟨r, 0, none⟩) _ _ _ w (fun v wx w1 => ∃ a' n' c', v = .slice a' n' c' ∧ n' = o.rn ∧ K.On wx w1 92 r a cap B ⟨s.k + (K.vint o.rn).length + o.rn, s.bad, s.wh⟩ ∧ K.Byt w1 a' R ∧ ∀ ad, a' = some ad → w.heap.size + 3 ≤ ad.block ∧ ad.block < w1.heap.size) (fun wx bx sx => (key wx bx sx).mono fun x w1 ⟨a', n', c', e1, e2⟩ => ⟨a', n', c', e1, ⟨a', n', c', rfl, e2⟩, keep_on' h e2.2.1⟩)).mono ?_
    rintro x w' ⟨a1, n1, c1, rfl, wx, w1, q1, q2, ⟨a', n', c', q3, q5, q6, q7, q8⟩, q4⟩
    cases q3
    have on := rdd_on h ⟨wx, w1, q1, q2, q6, q4⟩
    have hby : K.Byt w' a1 R := byt_fx q4 q7 (fun ad h => (q8 ad h).1)
    have hby2 : K.Byt w' o.ra R := K.byt_below ok.rb (fr_below bw on.2 hr)
    subst q5
    refine ⟨_, rfl, gC_size z32_len, by rw [← Nat.add_assoc]; exact on, fun wy by1 => told_7 _ (gC_size z32_len) o hh wy (fun w2 b2 => ?_)⟩
    have bb := by1.trans (b2.mono by1.size)
    exact same_true 0 0 0 false 0 ⟨#[]⟩ a1 o.ra o.rn _ _ R z32 none none 0 0 0 [] w2 hlr (by omega) (K.byt_below hby bb) (K.byt_below hby2 bb) z32_len (fun _ h => by cases h) rfl (by decide) (.inl rfl) (.inl rfl) (fun wx => sameV0 wx)
  · have hE : enc 8 o.z R D = o.h := by unfold enc; rw [if_neg (by decide), if_neg (by decide), if_neg (by decide), if_neg (by decide), if_neg (by decide), if_neg (by decide), if_neg (by decide), if_neg (by decide), if_pos rfl]; rfl
    rw [hE, hh] at hk
    rw [hE, hh] at hc
    rw [hE, hh]
    have hv := at_hash hh hb hk hc
    refine (read_8 (some ⟨r, 0, none⟩) _ _ _ o.h hh w (fun wx w1 => K.On wx w1 92 r a cap B ⟨s.k + 32, s.bad, s.wh⟩) (fun wx bx _ => ?_)).mono ?_
    · have := rhash_any wx (RD_b h bx)
      rw [hv] at this
      exact this.mono fun x w1 k => ⟨k.1, k.2, keep_on' h k.2⟩
    · rintro x w' ⟨rfl, hd⟩
      exact ⟨_, rfl, gC_size hh, rdd_on h hd, fun wx bx => told_8 _ (gC_size hh) o hh wx (fun w2 _ => same_pl _ _ _ _ _ _ hh w2)⟩
  · have hE : enc 9 o.z R D = K.vint D.length ++ cat D := enc9 _ _ _
    have hcl := cat_len hD.2.1
    rw [hE] at hk hc ⊢
    obtain ⟨c1, c2⟩ := K.cut_two hk hc
    have hnum := K.num_at D.length (by omega) c1
    rw [List.length_append, hcl] at hk
    have hdch : dch B (s.k + (K.vint D.length).length) D.length = D := by
      apply List.ext_getElem?
      intro i
      by_cases hi : i < D.length
      · obtain ⟨x, hx⟩ : ∃ x, D[i]? = some x := ⟨_, List.getElem?_eq_getElem hi⟩
        rw [dch_get _ _ _ _ hi, hx, ← cat_drop hD.2.1 i x hx]
        have h0 := c2
        unfold K.cut at h0
        rw [← h0, hcl, List.drop_take, List.take_take, List.drop_drop, Nat.min_eq_left (by omega)]
      · rw [List.getElem?_eq_none (by rw [dch_len]; omega), List.getElem?_eq_none (by omega)]
    have hm : mostOf 9 o = o.ln := by unfold mostOf; rw [if_neg (by decide), if_neg (by decide), if_pos rfl]
    rw [hm, List.length_append, hcl, Nat.mul_comm 32 D.length]
    have key : ∀ wx, Below w.heap.size w wx → wx.heap.size = w.heap.size + 3 → Calls Tryd.prog 47 #[.pointer (some ⟨r, 0, none⟩), .int .i64 (o.ln : Int)] wx fun x w1 => ∃ a' n' c', x = .returned (.slice a' n' c') ∧ (∃ q, (.slice a' n' c' : Value) = .slice (some ⟨q, 0, none⟩) D.length D.length ∧ w.heap.size + 3 ≤ q ∧ q < w1.heap.size ∧ Hs w1 q 0 D ∧ K.On wx w1 92 r a cap B ⟨s.k + (K.vint D.length).length + D.length * 32, s.bad, s.wh⟩) ∧ Keeps w.heap.size wx w1 := fun wx bx sx => by
      have := rhashes_asc o.ln (by omega) wx (RD_b h bx) hb _ _ _ hnum (by omega) (by omega) (by rw [hdch]; exact hD.1)
      rw [hdch] at this
      refine this.mono fun x w1 ⟨q, e1, e2, e3, e4, e5, on⟩ => ⟨_, _, _, e1, ⟨q, rfl, by omega, e3, e4, on⟩, keep_on' h on⟩
    refine (read_9 (some ⟨r, 0, none⟩) _ _ _ w (fun v wx w1 => ∃ q, v = .slice (some ⟨q, 0, none⟩) D.length D.length ∧ w.heap.size + 3 ≤ q ∧ q < w1.heap.size ∧ Hs w1 q 0 D ∧ K.On wx w1 92 r a cap B ⟨s.k + (K.vint D.length).length + D.length * 32, s.bad, s.wh⟩) key).mono ?_
    rintro x w' ⟨a1, n1, c1', rfl, wx, w1, g1, g2, ⟨q, e1, e2, e3, e4, on1⟩, g4⟩
    cases e1
    have on := rdd_on h ⟨wx, w1, g1, g2, on1, g4⟩
    have hl1 : Hl w' (some ⟨q, 0, none⟩) D := .inr ⟨q, 0, rfl, hs_fx g4 e4 e2⟩
    have hl2 : Hl w' o.la L := ok.lb.below ok.l32 (fr_below bw on.2 hr)
    refine ⟨_, rfl, gC_size z32_len, by rw [← Nat.add_assoc]; exact on, fun wy by1 => told_9 _ (gC_size z32_len) o hh L D ok.l32 hD ok.l (by omega) wy (hl2.below ok.l32 by1) (fun w2 a' c' b2 hl3 => ?_)⟩
    have bb := by1.trans (b2.mono by1.size)
    exact same_true 0 0 0 false 0 ⟨#[]⟩ none none 0 0 0 [] z32 _ a' D.length _ c' D w2 rfl (by decide) (.inl rfl) (.inl rfl) z32_len hD.2.1 rfl (by omega) (hl1.below hD.2.1 bb) hl3 (fun wx => sameV0 wx)
end Go.Proofs.YtbpmpcmmdiaiiaaDoor

namespace Go.Proofs.YtbpmpcmmdiaiiaaDoor
open Go.RowKit
set_option linter.unusedVariables false
set_option linter.unusedSimpArgs false

set_option maxRecDepth 100000 in
set_option maxHeartbeats 2000000 in
theorem ro_6 (o : OpV) (hh : o.h.length = 32) (w : World) (hs : o.s.size ≤ 140737488351232) :
    Calls Tryd.prog 16 #[.agg (o.c 6)] w fun x w' => x = .returned (.tuple #[.agg #[.int .i64 6, .int .u64 (o.u : Int), .int .i64 (o.s.size : Int), .int .i64 0], .bool (decide ((K.good o.s.data.toList : Int) = (o.s.size : Int)))]) ∧ Below w.heap.size w w' := by
  obtain ⟨wx, hwx, bx, sx, g1, g2, ⟨r0, r1, r2, r3, r4, r5, r6, r7, rh, r40, r41⟩⟩ := op_blocks o hh 6 w #[.int .i64 6, .int .u64 (o.u : Int), .int .i64 0, .int .i64 0]
  have BX := K.Hid.mk' bx
  have SX := K.Hid.mk' sx
  have G1 := K.Hid.mk' g1
  have G2 := K.Hid.mk' g2
  obtain ⟨wy, hwy, by', sy, ⟨t0, t1, t2, t3, t4, t5, t6, t7, th, t40, t41⟩⟩ := op_block o hh 6 w
  have by2 : Below wy.heap.size wy (wy.alloc (.cells rz4 45)) := (Below.refl _ _).alloc (Nat.le_refl _) _
  have u0 := (by2.cell (p := ⟨w.heap.size, 0, none⟩) (by show w.heap.size < _; omega)).trans t0
  have u3 := (by2.cell (p := ⟨w.heap.size, 3, none⟩) (by show w.heap.size < _; omega)).trans t3
  have sy2 : (wy.alloc (.cells rz4 45)).heap.size = w.heap.size + 2 := by simp; omega
  rw [hwy] at u0 u3 sy2
  have HSY := K.Hid.mk' sy2
  have y0 := (cell_of_row wx (w.heap.size + 2) 0 _ _ _ g2).trans (show (#[.int .i64 6, .int .u64 (o.u : Int), .int .i64 0, .int .i64 0] : Array Value)[0]? = some (.int .i64 6) from rfl)
  have y1 := (cell_of_row wx (w.heap.size + 2) 1 _ _ _ g2).trans (show (#[.int .i64 6, .int .u64 (o.u : Int), .int .i64 0, .int .i64 0] : Array Value)[1]? = some (.int .u64 (o.u : Int)) from rfl)
  have y2 := (cell_of_row wx (w.heap.size + 2) 2 _ _ _ g2).trans (show (#[.int .i64 6, .int .u64 (o.u : Int), .int .i64 0, .int .i64 0] : Array Value)[2]? = some (.int .i64 0) from rfl)
  have y3 := (cell_of_row wx (w.heap.size + 2) 3 _ _ _ g2).trans (show (#[.int .i64 6, .int .u64 (o.u : Int), .int .i64 0, .int .i64 0] : Array Value)[3]? = some (.int .i64 0) from rfl)
  have x0 := (cell_of_row wx (w.heap.size + 1) 0 _ _ _ g1).trans (show rz4[0]? = some (.int .i64 0) from rfl)
  have x1 := (cell_of_row wx (w.heap.size + 1) 1 _ _ _ g1).trans (show rz4[1]? = some (.int .u64 0) from rfl)
  have x2 := (cell_of_row wx (w.heap.size + 1) 2 _ _ _ g1).trans (show rz4[2]? = some (.int .i64 0) from rfl)
  have x3 := (cell_of_row wx (w.heap.size + 1) 3 _ _ _ g1).trans (show rz4[3]? = some (.int .i64 0) from rfl)
  have f0 := frozen_of_row wx (w.heap.size + 1) 0 _ _ g1
  have f1 := frozen_of_row wx (w.heap.size + 1) 1 _ _ g1
  have f2 := frozen_of_row wx (w.heap.size + 1) 2 _ _ g1
  have f3 := frozen_of_row wx (w.heap.size + 1) 3 _ _ g1
  have e2 := frozen_of_row wx (w.heap.size + 2) 2 _ _ g2
  have OPA : Hid (OpAt wx w.heap.size (.int .i64 6) (.int .u8 o.b) (.bool o.v) (.int .u64 (o.u : Int)) (.int .i64 o.n) (.float .f64 o.f) (.string o.s) (.slice o.ra o.rn o.rc) o.h (.slice o.la o.ln o.lc) (.int .i64 o.e)) := ⟨r0, r1, r2, r3, r4, r5, r6, r7, rh, r40, r41⟩
  clear bx sx rh th t0 t1 t2 t3 t4 t5 t6 t7 t40 t41 by' sy by2 hwy g1 g2
  generalize o.c 6 = C at *
  go_enter Tryd.func16, Tryd.ntmps16
  go_upto_region 1 with (first | (refine wpList_alloc_row rfl 45 rfl rz4 (hz45 _) ?_) | fail)
  generalize hV : ((w.alloc (.cells C 35)).alloc (.cells rz4 45)) = V at *
  go_upto_region 2 with (first
    | (refine wpList_alloc_row rfl 45 rfl rz4 (hz45 _) ?_)
    | (refine wpList_store_row rfl 45 _ _ rfl V.heap.size #[.int .i64 6, .int .u64 (o.u : Int), .int .i64 0, .int .i64 0] rfl rfl 45 rz4 (heap_alloc_new _ _) sizeRead rfl (rz4_one _ _ _ _ rfl rfl rfl rfl) ?_; rw [World.setRow_alloc_new, ← hwx])
    | fail)
  simp only [Act.put, List.setIfInBounds_toArray, List.set_cons_zero, List.set_cons_succ]
  rw [HSY.out]
  clear hwx hV u0 u3 sy2 HSY
  obtain ⟨W', hW'⟩ : ∃ W', W' = wx.setCell ⟨w.heap.size + 2, 2, none⟩ (.int .i64 (o.s.size : Int)) := ⟨_, rfl⟩
  have WG1 : Hid (W'.heap[w.heap.size + 1]? = some (.cells rz4 45 (0, 0))) := by show _ = _; rw [hW', Below.heap_setCell _ _ _ _ (by show w.heap.size + 1 ≠ w.heap.size + 2; omega)]; exact G1.out
  have g2' : W'.heap[w.heap.size + 2]? = some (.cells #[.int .i64 6, .int .u64 (o.u : Int), .int .i64 (o.s.size : Int), .int .i64 0] 45 (0, 0)) := by rw [hW', heap_setCell_same wx _ 2 _ 45 _ G2.out]; rfl
  have WBX : Hid (Below w.heap.size w W') := by rw [hW']; exact BX.out.setCell (by show w.heap.size ≤ w.heap.size + 2; omega) _
  have opw := OPA.out.of_block (w' := W') (by rw [hW', Below.heap_setCell _ _ _ _ (by show w.heap.size ≠ w.heap.size + 2; omega)])
  have n0 := opw.c0
  have n6 := opw.c6
  have HWR := K.Hid.mk' (fun wx => K.wrong_any o.s wx (by omega))
  have z0 := (cell_of_row W' (w.heap.size + 2) 0 _ _ _ g2').trans (show (#[.int .i64 6, .int .u64 (o.u : Int), .int .i64 (o.s.size : Int), .int .i64 0] : Array Value)[0]? = some (.int .i64 6) from rfl)
  have z1 := (cell_of_row W' (w.heap.size + 2) 1 _ _ _ g2').trans (show (#[.int .i64 6, .int .u64 (o.u : Int), .int .i64 (o.s.size : Int), .int .i64 0] : Array Value)[1]? = some (.int .u64 (o.u : Int)) from rfl)
  have z2 := (cell_of_row W' (w.heap.size + 2) 2 _ _ _ g2').trans (show (#[.int .i64 6, .int .u64 (o.u : Int), .int .i64 (o.s.size : Int), .int .i64 0] : Array Value)[2]? = some (.int .i64 (o.s.size : Int)) from rfl)
  have z3 := (cell_of_row W' (w.heap.size + 2) 3 _ _ _ g2').trans (show (#[.int .i64 6, .int .u64 (o.u : Int), .int .i64 (o.s.size : Int), .int .i64 0] : Array Value)[3]? = some (.int .i64 0) from rfl)
  have a0 := (cell_of_row W' (w.heap.size + 1) 0 _ _ _ WG1.out).trans (show rz4[0]? = some (.int .i64 0) from rfl)
  have a1 := (cell_of_row W' (w.heap.size + 1) 1 _ _ _ WG1.out).trans (show rz4[1]? = some (.int .u64 0) from rfl)
  have a2 := (cell_of_row W' (w.heap.size + 1) 2 _ _ _ WG1.out).trans (show rz4[2]? = some (.int .i64 0) from rfl)
  have a3 := (cell_of_row W' (w.heap.size + 1) 3 _ _ _ WG1.out).trans (show rz4[3]? = some (.int .i64 0) from rfl)
  have b0 := frozen_of_row W' (w.heap.size + 1) 0 _ _ WG1.out
  have b1 := frozen_of_row W' (w.heap.size + 1) 1 _ _ WG1.out
  have b2 := frozen_of_row W' (w.heap.size + 1) 2 _ _ WG1.out
  have b3 := frozen_of_row W' (w.heap.size + 1) 3 _ _ WG1.out
  clear opw g2'
  go_upto_region 5 with fail
  rw [← hW']
  clear hW' x0 x1 x2 x3 f0 f1 f2 f3 y0 y1 y2 y3 e2 r0 r1 r2 r3 r4 r5 r6 r7 r40 r41
  go_region_held3 (fun w' => w'.cell? ⟨w.heap.size, 6, none⟩ = some (.string o.s) ∧ w'.cell? ⟨w.heap.size + 2, 0, none⟩ = some (.int .i64 6) ∧ w'.cell? ⟨w.heap.size + 2, 1, none⟩ = some (.int .u64 (o.u : Int)) ∧ w'.cell? ⟨w.heap.size + 2, 2, none⟩ = some (.int .i64 (o.s.size : Int)) ∧ w'.cell? ⟨w.heap.size + 2, 3, none⟩ = some (.int .i64 0)) (first | assumption | go_keep) (first
    | (go_at_call 51; refine (HWR.out _).mono ?_; rintro e w1 ⟨rfl, hw1⟩; subst hw1)
    | fail)
  go_wp2
  exact bodyPost_ret (resRO _ _ (w.heap.size + 1) 45 _ rfl (0, 0) _ rfl rfl (four_set _ _ _ _ WG1.out 1)) rfl ⟨rfl, four_below _ _ _ _ WBX.out (by omega) 1⟩
set_option maxRecDepth 100000 in
set_option maxHeartbeats 2000000 in
theorem ro_5 (o : OpV) (hh : o.h.length = 32) (w : World) :
    Calls Tryd.prog 16 #[.agg (o.c 5)] w fun x w' => x = .returned (.tuple #[.agg #[.int .i64 5, .int .u64 (o.u : Int), .int .i64 0, .int .i64 0], .bool (K.finN o.f)]) ∧ Below w.heap.size w w' := by
  obtain ⟨wx, hwx, bx, sx, g1, g2, ⟨r0, r1, r2, r3, r4, r5, r6, r7, rh, r40, r41⟩⟩ := op_blocks o hh 5 w #[.int .i64 5, .int .u64 (o.u : Int), .int .i64 0, .int .i64 0]
  have BX := K.Hid.mk' bx
  have SX := K.Hid.mk' sx
  have G1 := K.Hid.mk' g1
  have G2 := K.Hid.mk' g2
  obtain ⟨wy, hwy, by', sy, ⟨t0, t1, t2, t3, t4, t5, t6, t7, th, t40, t41⟩⟩ := op_block o hh 5 w
  have by2 : Below wy.heap.size wy (wy.alloc (.cells rz4 45)) := (Below.refl _ _).alloc (Nat.le_refl _) _
  have u0 := (by2.cell (p := ⟨w.heap.size, 0, none⟩) (by show w.heap.size < _; omega)).trans t0
  have u3 := (by2.cell (p := ⟨w.heap.size, 3, none⟩) (by show w.heap.size < _; omega)).trans t3
  have sy2 : (wy.alloc (.cells rz4 45)).heap.size = w.heap.size + 2 := by simp; omega
  rw [hwy] at u0 u3 sy2
  have HSY := K.Hid.mk' sy2
  have y0 := (cell_of_row wx (w.heap.size + 2) 0 _ _ _ g2).trans (show (#[.int .i64 5, .int .u64 (o.u : Int), .int .i64 0, .int .i64 0] : Array Value)[0]? = some (.int .i64 5) from rfl)
  have y1 := (cell_of_row wx (w.heap.size + 2) 1 _ _ _ g2).trans (show (#[.int .i64 5, .int .u64 (o.u : Int), .int .i64 0, .int .i64 0] : Array Value)[1]? = some (.int .u64 (o.u : Int)) from rfl)
  have y2 := (cell_of_row wx (w.heap.size + 2) 2 _ _ _ g2).trans (show (#[.int .i64 5, .int .u64 (o.u : Int), .int .i64 0, .int .i64 0] : Array Value)[2]? = some (.int .i64 0) from rfl)
  have y3 := (cell_of_row wx (w.heap.size + 2) 3 _ _ _ g2).trans (show (#[.int .i64 5, .int .u64 (o.u : Int), .int .i64 0, .int .i64 0] : Array Value)[3]? = some (.int .i64 0) from rfl)
  have x0 := (cell_of_row wx (w.heap.size + 1) 0 _ _ _ g1).trans (show rz4[0]? = some (.int .i64 0) from rfl)
  have x1 := (cell_of_row wx (w.heap.size + 1) 1 _ _ _ g1).trans (show rz4[1]? = some (.int .u64 0) from rfl)
  have x2 := (cell_of_row wx (w.heap.size + 1) 2 _ _ _ g1).trans (show rz4[2]? = some (.int .i64 0) from rfl)
  have x3 := (cell_of_row wx (w.heap.size + 1) 3 _ _ _ g1).trans (show rz4[3]? = some (.int .i64 0) from rfl)
  have f0 := frozen_of_row wx (w.heap.size + 1) 0 _ _ g1
  have f1 := frozen_of_row wx (w.heap.size + 1) 1 _ _ g1
  have f2 := frozen_of_row wx (w.heap.size + 1) 2 _ _ g1
  have f3 := frozen_of_row wx (w.heap.size + 1) 3 _ _ g1
  have e2 := frozen_of_row wx (w.heap.size + 2) 2 _ _ g2
  clear bx sx rh th t0 t1 t2 t3 t4 t5 t6 t7 t40 t41 by' sy by2 hwy g1 g2
  generalize o.c 5 = C at *
  go_enter Tryd.func16, Tryd.ntmps16
  go_upto_region 1 with (first | (refine wpList_alloc_row rfl 45 rfl rz4 (hz45 _) ?_) | fail)
  generalize hV : ((w.alloc (.cells C 35)).alloc (.cells rz4 45)) = V at *
  go_upto_region 2 with (first
    | (refine wpList_alloc_row rfl 45 rfl rz4 (hz45 _) ?_)
    | (refine wpList_store_row rfl 45 _ _ rfl V.heap.size #[.int .i64 5, .int .u64 (o.u : Int), .int .i64 0, .int .i64 0] rfl rfl 45 rz4 (heap_alloc_new _ _) sizeRead rfl (rz4_one _ _ _ _ rfl rfl rfl rfl) ?_; rw [World.setRow_alloc_new, ← hwx])
    | fail)
  simp only [Act.put, List.setIfInBounds_toArray, List.set_cons_zero, List.set_cons_succ]
  rw [HSY.out]
  clear hwx hV u0 u3 sy2 HSY
  have HFN := K.Hid.mk' (fun wx => K.qfin_any o.f wx)
  go_upto_region 7 with fail
  go_region_held3 (fun w' => w'.cell? ⟨w.heap.size, 5, none⟩ = some (.float .f64 o.f) ∧ w'.cell? ⟨w.heap.size + 2, 0, none⟩ = some (.int .i64 5) ∧ w'.cell? ⟨w.heap.size + 2, 1, none⟩ = some (.int .u64 (o.u : Int)) ∧ w'.cell? ⟨w.heap.size + 2, 2, none⟩ = some (.int .i64 0) ∧ w'.cell? ⟨w.heap.size + 2, 3, none⟩ = some (.int .i64 0)) (first | assumption | go_keep) (first
    | (go_at_call 52; refine (HFN.out _).mono ?_; rintro e w1 ⟨rfl, m1, hw1⟩; subst hw1)
    | fail)
  go_wp2
  exact bodyPost_ret (resRO _ _ (w.heap.size + 1) 45 _ rfl (0, 0) _ rfl rfl (four_set (wx := wx.drewN (1 + m1)) _ _ _ _ G1.out 0)) rfl ⟨rfl, four_below _ _ _ _ (below_drewN' BX.out (1 + m1)) (by omega) 0⟩
end Go.Proofs.YtbpmpcmmdiaiiaaDoor

namespace Go.Proofs.YtbpmpcmmdiaiiaaDoor
open Go.RowKit
set_option linter.unusedVariables false
set_option linter.unusedSimpArgs false

set_option maxRecDepth 100000 in
set_option maxHeartbeats 2000000 in
theorem ro_neg (k : Int) (h0 : k < 0) (o : OpV) (hh : o.h.length = 32) (w : World) :
    Calls Tryd.prog 16 #[.agg (o.c k)] w fun x w' => x = .returned (.tuple #[.agg #[.int .i64 k, .int .u64 (o.u : Int), .int .i64 0, .int .i64 0], .bool false]) ∧ Below w.heap.size w w' := by
  have hd0 : decide (0 ≤ k) = false := by simp; omega
  have h5 : k ≠ 5 := by omega
  have h6 : k ≠ 6 := by omega
  have h7 : k ≠ 7 := by omega
  have h9 : k ≠ 9 := by omega
  obtain ⟨wx, hwx, bx, sx, g1, g2, ⟨r0, r1, r2, r3, r4, r5, r6, r7, rh, r40, r41⟩⟩ := op_blocks o hh k w #[.int .i64 k, .int .u64 (o.u : Int), .int .i64 0, .int .i64 0]
  have BX := K.Hid.mk' bx
  have SX := K.Hid.mk' sx
  have G1 := K.Hid.mk' g1
  have G2 := K.Hid.mk' g2
  obtain ⟨wy, hwy, by', sy, ⟨t0, t1, t2, t3, t4, t5, t6, t7, th, t40, t41⟩⟩ := op_block o hh k w
  have by2 : Below wy.heap.size wy (wy.alloc (.cells rz4 45)) := (Below.refl _ _).alloc (Nat.le_refl _) _
  have u0 := (by2.cell (p := ⟨w.heap.size, 0, none⟩) (by show w.heap.size < _; omega)).trans t0
  have u3 := (by2.cell (p := ⟨w.heap.size, 3, none⟩) (by show w.heap.size < _; omega)).trans t3
  have sy2 : (wy.alloc (.cells rz4 45)).heap.size = w.heap.size + 2 := by simp; omega
  rw [hwy] at u0 u3 sy2
  have HSY := K.Hid.mk' sy2
  have y0 := (cell_of_row wx (w.heap.size + 2) 0 _ _ _ g2).trans (show (#[.int .i64 k, .int .u64 (o.u : Int), .int .i64 0, .int .i64 0] : Array Value)[0]? = some (.int .i64 k) from rfl)
  have y1 := (cell_of_row wx (w.heap.size + 2) 1 _ _ _ g2).trans (show (#[.int .i64 k, .int .u64 (o.u : Int), .int .i64 0, .int .i64 0] : Array Value)[1]? = some (.int .u64 (o.u : Int)) from rfl)
  have y2 := (cell_of_row wx (w.heap.size + 2) 2 _ _ _ g2).trans (show (#[.int .i64 k, .int .u64 (o.u : Int), .int .i64 0, .int .i64 0] : Array Value)[2]? = some (.int .i64 0) from rfl)
  have y3 := (cell_of_row wx (w.heap.size + 2) 3 _ _ _ g2).trans (show (#[.int .i64 k, .int .u64 (o.u : Int), .int .i64 0, .int .i64 0] : Array Value)[3]? = some (.int .i64 0) from rfl)
  have x0 := (cell_of_row wx (w.heap.size + 1) 0 _ _ _ g1).trans (show rz4[0]? = some (.int .i64 0) from rfl)
  have x1 := (cell_of_row wx (w.heap.size + 1) 1 _ _ _ g1).trans (show rz4[1]? = some (.int .u64 0) from rfl)
  have x2 := (cell_of_row wx (w.heap.size + 1) 2 _ _ _ g1).trans (show rz4[2]? = some (.int .i64 0) from rfl)
  have x3 := (cell_of_row wx (w.heap.size + 1) 3 _ _ _ g1).trans (show rz4[3]? = some (.int .i64 0) from rfl)
  have f0 := frozen_of_row wx (w.heap.size + 1) 0 _ _ g1
  have f1 := frozen_of_row wx (w.heap.size + 1) 1 _ _ g1
  have f2 := frozen_of_row wx (w.heap.size + 1) 2 _ _ g1
  have f3 := frozen_of_row wx (w.heap.size + 1) 3 _ _ g1
  have e2 := frozen_of_row wx (w.heap.size + 2) 2 _ _ g2
  clear bx sx rh th t0 t1 t2 t3 t4 t5 t6 t7 t40 t41 by' sy by2 hwy g1 g2
  generalize o.c k = C at *
  go_enter Tryd.func16, Tryd.ntmps16
  go_upto_region 1 with (first | (refine wpList_alloc_row rfl 45 rfl rz4 (hz45 _) ?_) | fail)
  generalize hV : ((w.alloc (.cells C 35)).alloc (.cells rz4 45)) = V at *
  go_upto_region 2 with (first
    | (refine wpList_alloc_row rfl 45 rfl rz4 (hz45 _) ?_)
    | (refine wpList_store_row rfl 45 _ _ rfl V.heap.size #[.int .i64 k, .int .u64 (o.u : Int), .int .i64 0, .int .i64 0] rfl rfl 45 rz4 (heap_alloc_new _ _) sizeRead rfl (rz4_one _ _ _ _ rfl rfl rfl rfl) ?_; rw [World.setRow_alloc_new, ← hwx])
    | fail)
  simp only [Act.put, List.setIfInBounds_toArray, List.set_cons_zero, List.set_cons_succ]
  rw [HSY.out]
  clear hwx hV u0 u3 sy2 HSY
  go_wp2
  refine wp_region_noPanic ?_
  refine wp_region_held_drew (S := fun w' => w'.cell? ⟨w.heap.size, 0, none⟩ = some (.int .i64 k) ∧ w'.cell? ⟨w.heap.size + 2, 0, none⟩ = some (.int .i64 k) ∧ w'.cell? ⟨w.heap.size + 2, 1, none⟩ = some (.int .u64 (o.u : Int)) ∧ w'.cell? ⟨w.heap.size + 2, 2, none⟩ = some (.int .i64 0) ∧ w'.cell? ⟨w.heap.size + 2, 3, none⟩ = some (.int .i64 0)) (by kernel_rfl) ⟨r0, y0, y1, y2, y3⟩ (fun hHeld => ?_)
  refine wpAnyH_take (i := 0) (v := Value.agg #[.int .i64 k, .int .u64 (o.u : Int), .int .i64 0, .int .i64 0]) rfl (by kernel_rfl) (by kernel_rfl) (by kernel_rfl) (fun _ _ _ h => h) (Or.inl ⟨by rfl, ?_⟩) hHeld ?_
  · intro w' hS
    obtain ⟨s0, s1, s2, s3, s4⟩ := hS
    go_simp
  simp only [Act.put, List.setIfInBounds_toArray, List.set_cons_zero, List.set_cons_succ]
  refine wpAnyH_take (i := 1) (v := Value.pointer (some ⟨w.heap.size, 0, none⟩)) rfl (by kernel_rfl) (by kernel_rfl) (by kernel_rfl) (fun _ _ _ h => h) (Or.inl ⟨by rfl, ?_⟩) hHeld ?_
  · intro w' hS
    obtain ⟨s0, s1, s2, s3, s4⟩ := hS
    go_simp
  simp only [Act.put, List.setIfInBounds_toArray, List.set_cons_zero, List.set_cons_succ]
  refine wpAnyH_take (i := 2) (v := Value.int .i64 k) rfl (by kernel_rfl) (by kernel_rfl) (by kernel_rfl) (fun _ _ _ h => h) (Or.inl ⟨by rfl, ?_⟩) hHeld ?_
  · intro w' hS
    obtain ⟨s0, s1, s2, s3, s4⟩ := hS
    go_simp
  simp only [Act.put, List.setIfInBounds_toArray, List.set_cons_zero, List.set_cons_succ]
  refine wpAnyH_take (i := 3) (v := Value.bool false) rfl (by kernel_rfl) (by kernel_rfl) (by kernel_rfl) (fun _ _ _ h => h) (Or.inl ⟨by rfl, ?_⟩) hHeld ?_
  · intro w' hS
    obtain ⟨s0, s1, s2, s3, s4⟩ := hS
    go_simp
  simp only [Act.put, List.setIfInBounds_toArray, List.set_cons_zero, List.set_cons_succ]
  refine wpAnyH_take (i := 4) (v := Value.bool false) rfl (by kernel_rfl) (by kernel_rfl) (by kernel_rfl) (fun _ _ _ h => h) (Or.inl ⟨by rfl, ?_⟩) hHeld ?_
  · intro w' hS
    obtain ⟨s0, s1, s2, s3, s4⟩ := hS
    go_simp
  simp only [Act.put, List.setIfInBounds_toArray, List.set_cons_zero, List.set_cons_succ]
  refine wpAnyH_take (i := 5) (v := undef) rfl (by kernel_rfl) (by kernel_rfl) (by kernel_rfl) (fun _ _ _ h => h) (Or.inr ⟨by rfl, rfl⟩) hHeld ?_
  simp only [Act.put, List.setIfInBounds_toArray, List.set_cons_zero, List.set_cons_succ]
  refine wpAnyH_take (i := 6) (v := undef) rfl (by kernel_rfl) (by kernel_rfl) (by kernel_rfl) (fun _ _ _ h => h) (Or.inr ⟨by rfl, rfl⟩) hHeld ?_
  simp only [Act.put, List.setIfInBounds_toArray, List.set_cons_zero, List.set_cons_succ]
  refine wpAnyH_take (i := 7) (v := undef) rfl (by kernel_rfl) (by kernel_rfl) (by kernel_rfl) (fun _ _ _ h => h) (Or.inr ⟨by rfl, rfl⟩) hHeld ?_
  simp only [Act.put, List.setIfInBounds_toArray, List.set_cons_zero, List.set_cons_succ]
  refine wpAnyH_take (i := 8) (v := Value.bool false) rfl (by kernel_rfl) (by kernel_rfl) (by kernel_rfl) (fun _ _ _ h => h) (Or.inl ⟨by rfl, ?_⟩) hHeld ?_
  · intro w' hS
    obtain ⟨s0, s1, s2, s3, s4⟩ := hS
    go_simp
  simp only [Act.put, List.setIfInBounds_toArray, List.set_cons_zero, List.set_cons_succ]
  refine wpAnyH_ready (rs := [9]) (by kernel_rfl) (by simp) ?_
  refine AllReadyH.cons rfl (fun K hK => ?_) AllReadyH.nil
  go_simp
  refine hK.out _ _ ?_ (fun hHeld2 => ?_)
  · go_keep
  clear hK K
  try simp only [Act.put, List.setIfInBounds_toArray, List.set_cons_zero, List.set_cons_succ]
  refine wpAnyH_take (i := 10) (v := Value.bool false) rfl (by kernel_rfl) (by kernel_rfl) (by kernel_rfl) (fun _ _ _ h => h) (Or.inl ⟨by rfl, ?_⟩) hHeld2 ?_
  · intro w' hS
    go_simp
  simp only [Act.put, List.getElem_toArray, List.getElem_cons_succ, List.getElem_cons_zero, List.setIfInBounds_toArray, List.set_cons_zero, List.set_cons_succ]
  refine wpAnyH_done (by kernel_rfl) (NoPanic.normal ?_) _
  go_wp2
  exact bodyPost_ret (resRO _ _ (w.heap.size + 1) 45 _ rfl (0, 0) (.bool false) rfl rfl (four_set _ _ _ _ G1.out 1)) rfl ⟨rfl, four_below _ _ _ _ BX.out (by omega) 1⟩
end Go.Proofs.YtbpmpcmmdiaiiaaDoor

namespace Go.Proofs.YtbpmpcmmdiaiiaaDoor
open Go.RowKit
set_option linter.unusedVariables false
set_option linter.unusedSimpArgs false

/-- What readOf answers. -/
theorem ro_any (k : Int) (o : OpV) (hh : o.h.length = 32) (hs : o.s.size ≤ 140737488351232) (w : World) :
    Calls Tryd.prog 16 #[.agg (o.c k)] w fun x w' => x = .returned (.tuple #[.agg #[.int .i64 k, .int .u64 (o.u : Int), .int .i64 (mostOf k o : Int), .int .i64 0], .bool (sentB k o)]) ∧ Below w.heap.size w w' := by
  by_cases h6 : k = 6
  · subst h6
    refine (ro_6 o hh w hs).mono fun x w' h => ⟨?_, h.2⟩
    rw [h.1]
    have : decide ((K.good o.s.data.toList : Int) = (o.s.size : Int)) = sentB 6 o := by
      unfold sentB
      rw [if_pos rfl]
      exact decide_eq_decide.2 (by omega)
    rw [this]
    rfl
  · by_cases h5 : k = 5
    · subst h5
      refine (ro_5 o hh w).mono fun x w' h => ⟨?_, h.2⟩
      rw [h.1]
      rfl
    · by_cases h7 : k = 7
      · subst h7
        refine (ro_7 o hh w).mono fun x w' h => ⟨?_, h.2⟩
        rw [h.1]
        rfl
      · by_cases h9 : k = 9
        · subst h9
          refine (ro_9 o hh w).mono fun x w' h => ⟨?_, h.2⟩
          rw [h.1]
          rfl
        · have e1 : mostOf k o = 0 := by unfold mostOf; rw [if_neg h6, if_neg h7, if_neg h9]
          by_cases h0 : 0 ≤ k
          · refine (ro_pos k h0 h5 h6 h7 h9 o hh w).mono fun x w' h => ⟨?_, h.2⟩
            have e2 : sentB k o = decide (k ≤ 9) := by unfold sentB; rw [if_neg h6, if_neg h5]; exact decide_eq_decide.2 (by omega)
            rw [h.1, e1, e2]
            rfl
          · refine (ro_neg k (by omega) o hh w).mono fun x w' h => ⟨?_, h.2⟩
            have e2 : sentB k o = false := by unfold sentB; rw [if_neg h6, if_neg h5]; exact decide_eq_false (by omega)
            rw [h.1, e1, e2]
            rfl
end Go.Proofs.YtbpmpcmmdiaiiaaDoor

namespace Go.Proofs.YtbpmpcmmdiaiiaaDoor
open Go.RowKit
set_option linter.unusedVariables false
set_option linter.unusedSimpArgs false

/-- A hash put where it belongs. -/
def insS (x : List UInt8) : List (List UInt8) → List (List UInt8)
  | [] => [x]
  | y :: r => if cmpL x y < 0 then x :: y :: r else if cmpL y x < 0 then y :: insS x r else y :: r
theorem insS_mem {x : List UInt8} (hx : x.length = 32) : ∀ {D : List (List UInt8)}, All32 D → ∀ z, z ∈ insS x D ↔ z = x ∨ z ∈ D
  | [], _, z => by simp [insS]
  | y :: r, h, z => by
    have hy := h y (by simp)
    unfold insS
    split
    · simp
    · split
      · rw [List.mem_cons, insS_mem hx (fun a ha => h a (by simp [ha])) z, List.mem_cons]
        constructor
        · rintro (e | e | e)
          · exact .inr (.inl e)
          · exact .inl e
          · exact .inr (.inr e)
        · rintro (e | e | e)
          · exact .inr (.inl e)
          · exact .inl e
          · exact .inr (.inr e)
      · rename_i h1 h2
        have e0 : x = y := (cmpL_zero hx hy).1 (by have := cmpL_neg hx hy; omega)
        subst e0
        simp
theorem insS_rise {x : List UInt8} (hx : x.length = 32) : ∀ {D : List (List UInt8)}, All32 D → SRise D → SRise (insS x D)
  | [], _, _ => srise_cons srise_nil (fun y h => by cases h)
  | y :: r, h, hs => by
    have hy := h y (by simp)
    have h32 : All32 r := fun a ha => h a (by simp [ha])
    unfold insS
    split
    · rename_i h1
      refine srise_cons hs (fun z hz => ?_)
      rcases List.mem_cons.1 hz with rfl | hz
      · exact h1
      · exact lt_trans hx hy (h32 z hz) h1 (hs.head hz)
    · split
      · rename_i h2
        refine srise_cons (insS_rise hx h32 hs.tail) (fun z hz => ?_)
        rcases (insS_mem hx h32 z).1 hz with rfl | hz
        · exact h2
        · exact hs.head hz
      · exact hs
theorem insS_len (x : List UInt8) : ∀ (D : List (List UInt8)), (insS x D).length ≤ D.length + 1
  | [] => by simp [insS]
  | y :: r => by
    have := insS_len x r
    unfold insS
    split
    · simp
    · split
      · simp; omega
      · simp
theorem srt_ex : ∀ (L : List (List UInt8)), All32 L → ∃ D, Srt L D ∧ D.length ≤ L.length
  | [], _ => ⟨[], ⟨srise_nil, (fun x h => by cases h), fun x => Iff.rfl⟩, Nat.le_refl _⟩
  | x :: r, h => by
    have hx := h x (by simp)
    obtain ⟨D, ⟨s1, s2, s3⟩, hl⟩ := srt_ex r (fun a ha => h a (by simp [ha]))
    refine ⟨insS x D, ⟨insS_rise hx s2 s1, fun z hz => ?_, fun z => ?_⟩, ?_⟩
    · rcases (insS_mem hx s2 z).1 hz with rfl | hz
      · exact hx
      · exact s2 z hz
    · rw [insS_mem hx s2 z, List.mem_cons, s3 z]
    · have := insS_len x D
      simp only [List.length_cons]
      omega

theorem infoO : ∃ i, Tryd.prog.info? 35 = some i ∧ i.zero = some (.agg (oz.c 0)) ∧ i.size = 42 ∧ i.bytes = 144 := by
  have h : (Tryd.prog.info? 35).map (fun i => (i.zero, i.size, i.bytes)) = some (some (.agg (oz.c 0)), 42, 144) := by kernel_rfl
  cases hq : Tryd.prog.info? 35 with
  | none => rw [hq] at h; simp at h
  | some i =>
    rw [hq] at h
    simp at h
    exact ⟨i, rfl, h.1, h.2.1, h.2.2⟩
def flatO (l : List (Int × OpV)) : List Value := l.flatMap (fun x => (x.2.c x.1).toList)
def AllO (l : List (Int × OpV)) : Prop := ∀ x ∈ l, x.2.h.length = 32
theorem opc_len {o : OpV} {k : Int} (hh : o.h.length = 32) : (o.c k).toList.length = 42 := by
  show (oL _ _ _ _ _ _ _ _ _ _ _).length = 42
  exact oL_len hh
theorem flatO_len : ∀ {l : List (Int × OpV)}, AllO l → (flatO l).length = l.length * 42
  | [], _ => rfl
  | x :: r, h => by
    have := flatO_len (l := r) (fun y hy => h y (by simp [hy]))
    unfold flatO at *
    rw [List.flatMap_cons, List.length_append, this, opc_len (h x (by simp)), List.length_cons]
    omega
theorem flatO_get : ∀ {l : List (Int × OpV)}, AllO l → ∀ (i j : Nat) (x : Int × OpV), l[i]? = some x → j < 42 → (flatO l)[i * 42 + j]? = (x.2.c x.1).toList[j]?
  | [], _, i, j, x, h, _ => by simp at h
  | y :: r, h, i, j, x, hx, hj => by
    have hy := opc_len (k := y.1) (h y (by simp))
    unfold flatO
    rw [List.flatMap_cons]
    cases i with
    | zero =>
      simp at hx
      subst hx
      rw [List.getElem?_append_left (by rw [hy]; omega)]
      congr 1
      omega
    | succ i =>
      rw [List.getElem?_append_right (by rw [hy]; omega), hy, show (i + 1) * 42 + j - 42 = i * 42 + j by omega]
      exact flatO_get (l := r) (fun z hz => h z (by simp [hz])) i j x (by simpa using hx) hj
theorem opc_one (o : OpV) (k : Int) : ∀ u ∈ (o.c k).toList, u.oneCell' = true := fun u hu => by
  have : u ∈ oL (.int .i64 k) (.int .u8 o.b) (.bool o.v) (.int .u64 (o.u : Int)) (.int .i64 o.n) (.float .f64 o.f) (.string o.s) (.slice o.ra o.rn o.rc) o.h (.slice o.la o.ln o.lc) (.int .i64 o.e) := hu
  unfold oL at this
  simp only [List.mem_cons, List.mem_append, List.not_mem_nil, or_false] at this
  rcases this with rfl | rfl | rfl | rfl | rfl | rfl | rfl | rfl | h | rfl | rfl
  all_goals first | rfl | exact hcs_one o.h u h
/-- A slice of the call's own that holds Ops. -/
def OwnO (w : World) (base : Nat) (v : Value) (l : List (Int × OpV)) : Prop := AllO l ∧ w.ownsRow base 35 42 v l.length (flatO l)
theorem OwnO.nil (w : World) (base : Nat) : OwnO w base (.slice none 0 0) [] := ⟨fun _ h => by simp at h, World.ownsRow_nil w base 35 42⟩
theorem OwnO.open {w : World} {base : Nat} {v : Value} {l : List (Int × OpV)} (h : OwnO w base v l) :
    (v = .slice none 0 0 ∧ l = []) ∨ ∃ g cap, v = .slice (some ⟨g, 0, none⟩) l.length cap ∧ base ≤ g ∧ g < w.heap.size ∧ ∀ i k o, l[i]? = some (k, o) → w.rangeAt g (42 * i) (o.c k).toList := by
  obtain ⟨hL, hlen, ⟨rfl, hn⟩ | ⟨g, cap, cur, rfl, hbg, hg, hnc, hcm, hcs', htake⟩⟩ := h
  · exact .inl ⟨rfl, List.eq_nil_of_length_eq_zero hn⟩
  · refine .inr ⟨g, cap, rfl, hbg, (Array.getElem?_eq_some_iff.1 hg).1, fun i k o hx j v hv => ?_⟩
    have hi := (List.getElem?_eq_some_iff.1 hx).1
    have hj : j < 42 := by have := (List.getElem?_eq_some_iff.1 hv).1; rwa [opc_len (hL _ (List.mem_of_getElem? hx))] at this
    have h1 : (flatO l)[i * 42 + j]? = some v := (flatO_get hL i j (k, o) hx hj).trans hv
    rw [cell_of_row w g _ cur _ (0, 0) hg, ← h1, ← htake, List.getElem?_take, if_pos (by omega)]
    simp [Nat.mul_comm]
theorem OwnO.keep {w w' : World} {base : Nat} {v : Value} {l : List (Int × OpV)} (h : OwnO w base v l) (hb : ∀ g, v.ownBlock = some g → w'.heap[g]? = w.heap[g]?) : OwnO w' base v l := by
  refine ⟨h.1, h.2.1, ?_⟩
  rcases h.2.2 with hn | ⟨g, cap, cur, rfl, hbg, hg, rest⟩
  · exact .inl hn
  · exact .inr ⟨g, cap, cur, rfl, hbg, by rw [hb g rfl]; exact hg, rest⟩
theorem OwnO.lt {w : World} {base : Nat} {v : Value} {l : List (Int × OpV)} (h : OwnO w base v l) (g : Nat) (hg : v.ownBlock = some g) : base ≤ g ∧ g < w.heap.size := World.ownsRow.lt h.2 g hg
theorem OwnO.below {w w' : World} {base : Nat} {v : Value} {l : List (Int × OpV)} (h : OwnO w base v l) (hb : Below w.heap.size w w') : OwnO w' base v l := h.keep fun g hg => hb.block g (h.lt g hg).2
theorem ozsize : (Value.agg (oz.c 0)).cells.size = 42 := rfl
theorem run_appO (w : World) (base : Nat) (ty : TypeId) (v : Value) (l : List (Int × OpV)) (a : Addr) (k : Int) (o : OpV) (c : Nat) (hown : OwnO w base v l) (hh : o.h.length = 32) (hb : ∀ j u, (o.c k).toList[j]? = some u → w.cell? (a.add j) = some u)
    (h : l.length ≤ 1048576) (hbase : base ≤ w.heap.size) :
    ∃ v' w', (Builtin.append_ #[22, 22] ty #[v, .slice (some a) 1 c]).run Tryd.prog w = .ok v' w' ∧ OwnO w' base v' (l ++ [(k, o)]) ∧ w.grownBy w' v.ownBlock := by
  obtain ⟨i, hi, hz, hs, hby⟩ := infoO
  obtain ⟨v', w', hr, h2, h3, h4⟩ := run_append_own_wide (P := Tryd.prog) w base 22 ty 35 i (.agg (oz.c 0)) 42 144 Tryd.underlying22 hi hz hs hby ozsize (by omega) v l.length (flatO l) hown.2 a 1 c (o.c k).toList (opc_len hh) hb (opc_one o k) (by unfold maxLen; omega) (by omega) hbase
  refine ⟨v', w', hr, ⟨?_, ?_⟩, h3⟩
  · intro x hx
    rcases List.mem_append.1 hx with hx | hx
    · exact hown.1 x hx
    · simp at hx; subst hx; exact hh
  · rw [List.length_append]
    have : flatO (l ++ [(k, o)]) = flatO l ++ (o.c k).toList := by simp [flatO]
    rw [this]
    exact h2
theorem wpList_appO {ops : Array Oper} {rest : List Oper} {p : Oper} {a : Act} {w : World} {Q : Exit → Act → World → Prop} (hgd : p.guard = none) (s x : Operand)
    (ho : p.op = .call { callee := .builtin .append, args := #[s, x], argTypes := #[22, 22] }) (base : Nat) (v : Value) (l : List (Int × OpV)) (hs : a.eval s = v) (hown : OwnO w base v l)
    (aa : Addr) (c : Nat) (k : Int) (o : OpV) (hx : a.eval x = .slice (some aa) 1 c) (hh : o.h.length = 32) (hb : ∀ j u, (o.c k).toList[j]? = some u → w.cell? (aa.add j) = some u) (hlen : l.length ≤ 1048576) (hbase : base ≤ w.heap.size)
    (h : ∀ v' w', OwnO w' base v' (l ++ [(k, o)]) → w.grownBy w' v.ownBlock → wpList Tryd.prog ops Q rest (a.put p.dst v') w') : wpList Tryd.prog ops Q (p :: rest) a w :=
  wpList_plain hgd fun _ hK => by
    obtain ⟨v', w', hr, h2, h3⟩ := run_appO w base p.type v l aa k o c hown hh hb hlen hbase
    unfold Oper.wp execOp
    simp only [ho, resolve, invoke, builtin, Sem.run_bind, Sem.run_pure, Result.andThen_ok, List.map_toArray, List.map_cons, List.map_nil, hs, hx, hr]
    exact hK _ _ (h v' w' h2 h3)
end Go.Proofs.YtbpmpcmmdiaiiaaDoor

namespace Go.Proofs.YtbpmpcmmdiaiiaaDoor
open Go.RowKit
set_option linter.unusedVariables false
set_option linter.unusedSimpArgs false

/-- Ops that lie in memory, with their lists. -/
def Opb (W : World) (a : Option Addr) (l : List (Int × OpV)) : Prop := l = [] ∨ ∃ b off, a = some ⟨b, off, none⟩ ∧ ∀ (i : Nat) (k : Int) (o : OpV), l[i]? = some (k, o) → W.rangeAt b (off + 42 * i) (o.c k).toList ∧ ∃ R L, OpL W o R L
theorem Opb.at {W : World} {a : Option Addr} {l : List (Int × OpV)} (h : Opb W a l) {i : Nat} (hi : i < l.length) : ∃ b off k o R L, a = some ⟨b, off, none⟩ ∧ l[i]? = some (k, o) ∧ W.rangeAt b (off + 42 * i) (o.c k).toList ∧ OpL W o R L ∧ b < W.heap.size := by
  rcases h with rfl | ⟨b, off, rfl, h⟩
  · simp at hi
  · obtain ⟨⟨k, o⟩, e⟩ : ∃ x, l[i]? = some x := ⟨_, List.getElem?_eq_getElem hi⟩
    obtain ⟨h1, R, L, h2⟩ := h i k o e
    exact ⟨b, off, k, o, R, L, rfl, e, h1, h2, rangeAt_lt h1 (by rw [opc_len h2.hh]; omega)⟩
/-- What is sent, and what is written of it. -/
structure Sent (W : World) (S : List (Int × OpV)) (Es : List (List UInt8)) : Prop where
  len : Es.length = S.length
  each : ∀ (i : Nat) (kd : Int) (o : OpV), S[i]? = some (kd, o) → ∃ R L D, OpL W o R L ∧ Srt L D ∧ D.length ≤ L.length ∧ sentB kd o = true ∧ Es[i]? = some (enc kd o.z R D)
theorem Sent.nil (W : World) : Sent W [] [] := ⟨rfl, fun i kd o h => by simp at h⟩
theorem Sent.snoc {W : World} {S : List (Int × OpV)} {Es : List (List UInt8)} (h : Sent W S Es) {kd : Int} {o : OpV} {R : List UInt8} {L D : List (List UInt8)} (ok : OpL W o R L) (hD : Srt L D) (hl : D.length ≤ L.length) (hs : sentB kd o = true) : Sent W (S ++ [(kd, o)]) (Es ++ [enc kd o.z R D]) := by
  refine ⟨by rw [List.length_append, List.length_append, h.len]; rfl, fun i k' o' hi => ?_⟩
  by_cases hlt : i < S.length
  · rw [List.getElem?_append_left hlt] at hi
    obtain ⟨R', L', D', q1, q2, q3, q4, q5⟩ := h.each i k' o' hi
    exact ⟨R', L', D', q1, q2, q3, q4, by rw [List.getElem?_append_left (by rw [h.len]; exact hlt)]; exact q5⟩
  · have hi' : i = S.length := by
      have := (List.getElem?_eq_some_iff.1 hi).1
      simp at this
      omega
    subst hi'
    rw [List.getElem?_append_right (Nat.le_refl _), Nat.sub_self] at hi
    simp at hi
    obtain ⟨rfl, rfl⟩ := hi
    exact ⟨R, L, D, ok, hD, hl, hs, by rw [List.getElem?_append_right (by rw [h.len]; omega), h.len, Nat.sub_self]; rfl⟩
theorem vint_10 (v : Nat) (h : v < 18446744073709551616) : (K.vint v).length ≤ 10 := K.vint_len 9 v (Nat.lt_of_lt_of_le h (by decide))
theorem enc_len {W : World} {kd : Int} {o : OpV} {R : List UInt8} {L D : List (List UInt8)} (ok : OpL W o R L) (hD : Srt L D) (hl : D.length ≤ L.length) : (enc kd o.z R D).length ≤ 33554500 := by
  have h1 := ok.s
  have h2 := ok.r
  have h3 := ok.rl
  have h4 := ok.l
  have h5 := ok.ll
  have h6 := vint_10 o.u ok.u
  have h7 := vint_10 _ (K.zig_lt o.n ok.n0 ok.n1)
  have h8 := vint_10 o.s.size (by omega)
  have h9 := vint_10 o.rn (by omega)
  have h10 := vint_10 D.length (by omega)
  have h11 := cat_len hD.2.1
  have h12 : o.s.data.toList.length = o.s.size := by simp
  have h13 := ok.hh
  unfold enc
  repeat' split
  all_goals simp only [OpV.z, List.length_cons, List.length_nil, b4_len, b8_len, List.length_append, hw]
  all_goals omega
/-- The Writer, and the Ops that were sent to it. -/
structure BackA (W : World) (p : Nat) (wr : World) (g : Option Nat) (M : List UInt8) (v : Value) (S : List (Int × OpV)) : Prop where
  ws : K.WS wr 50 p g M 0
  bl : Below W.heap.size W wr
  gz : ∀ q, g = some q → W.heap.size ≤ q
  pz : W.heap.size ≤ p
  own : OwnO wr W.heap.size v S
variable {W wr w' : World} {p : Nat} {g : Option Nat} {M M' : List UInt8} {v v' : Value} {S S' : List (Int × OpV)}
theorem BackA.sep (I : BackA W p wr g M v S) (q : Nat) (hq : v.ownBlock = some q) : q ≠ p ∧ some q ≠ g := by
  rcases I.own.2.2 with ⟨rfl, _⟩ | ⟨q', cap, cur, rfl, hbg, hg, rest⟩
  · cases hq
  · cases hq
    obtain ⟨u, h1, h2, h3⟩ := I.ws.ex
    refine ⟨fun e => ?_, fun e => ?_⟩
    · have e' : q' = p := e
      rw [e', h1] at hg
      cases hg
    · rcases h2.2 with ⟨rfl, _⟩ | ⟨q2, cap2, cur2, rfl, hb2, hg2, _⟩
      · rw [← h3] at e; cases e
      · rw [← h3] at e
        have e' : q' = q2 := by cases e; rfl
        rw [e', hg2] at hg
        cases hg
theorem BackA.write (I : BackA W p wr g M v S) (h : K.Wr wr w' 50 p g M' 0) : ∃ g', BackA W p w' g' M' v S := by
  obtain ⟨g', ws, fr, nw⟩ := h
  refine ⟨g', ws, frw_below I.bl fr I.pz I.gz, fun q e => ?_, I.pz, I.own.keep fun q hq => fr.block q (I.own.lt q hq).2 (I.sep q hq).1 (I.sep q hq).2⟩
  rcases nw with e1 | ⟨x, e1, hx⟩
  · exact I.gz q (e1.symm.trans e)
  · rw [e1] at e
    cases e
    exact Nat.le_trans I.bl.size hx
theorem BackA.below (I : BackA W p wr g M v S) (b : Below wr.heap.size wr w') : BackA W p w' g M v S :=
  ⟨I.ws.below b, I.bl.trans (b.mono I.bl.size), I.gz, I.pz, I.own.below b⟩
theorem BackA.grow (I : BackA W p wr g M v S) (gr : wr.grownBy w' v.ownBlock) (own : OwnO w' W.heap.size v' S') : BackA W p w' g M v' S' := by
  obtain ⟨u, h1, h2, h3⟩ := I.ws.ex
  have hp : some p ≠ v.ownBlock := fun e => (I.sep p e.symm).1 rfl
  refine ⟨⟨⟨u, ?_, ⟨h2.1, ?_⟩, h3⟩, I.ws.ne⟩, I.bl.grown gr I.bl.size (fun k hk => (I.own.lt k hk).1), I.gz, I.pz, own⟩
  · rw [gr.5 p I.ws.lt hp]; exact h1
  · rcases h2.2 with hn | ⟨q, cap, cur, rfl, hbg, hg, rest⟩
    · exact .inl hn
    · refine .inr ⟨q, cap, cur, rfl, hbg, ?_, rest⟩
      have hq : some q = g := h3
      rw [gr.5 q (Array.getElem?_eq_some_iff.1 hg).1 (fun e => (I.sep q e.symm).2 hq)]
      exact hg
end Go.Proofs.YtbpmpcmmdiaiiaaDoor

