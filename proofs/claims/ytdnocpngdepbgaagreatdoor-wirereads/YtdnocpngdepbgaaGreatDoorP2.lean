import Derived.Test.YtdnocpngdepbgaaGreatDoorP1
import Derived.Lib.ValidLaws
import Derived.Test.YtdnocpngdepbgaaGreatDoorKQu
namespace Go.Proofs.YtdnocpngdepbgaaGreatDoor.K
open Go.RowKit
set_option linter.unusedVariables false
set_option linter.unusedSimpArgs false

def b8 (f : Nat) : List UInt8 := b4 (f / 4294967296) ++ b4 (f % 4294967296)
variable {p : Nat} {g : Option Nat} {M : List UInt8} {e : Int}
theorem WS.glt {w : World} {T : TypeId} (h : WS w T p g M e) {k : Nat} (hk : g = some k) : k < w.heap.size := by
  obtain ⟨v, h1, h2, h3⟩ := h.ex
  exact (World.ownsRow.lt h2 k (h3.trans hk)).2
theorem wfix_wr (w : World) (hsum : M.length + 64 ≤ 140737488355328) (n : Nat) (hn : n < 4294967296) (v : Int) (hv : v = (n : Int)) (P : List UInt8) (hP : P.length ≤ 50) (wx : World) (hx : Wr w wx 28 p g (wA M e P) e) : Calls Tryz.prog 37 #[.pointer (some ⟨p, 0, none⟩), .int .u32 v] wx fun x w' => x = .returned (.tuple #[]) ∧ Wr w w' 28 p g (wA M e (P ++ b4 n)) e := by
  subst hv
  obtain ⟨g1, ws, fr, nw⟩ := hx
  refine (wfix_any n hn wx ws (by have := wA_len M e P; omega)).mono fun x w' h => ?_
  rw [wA_wA] at h
  exact ⟨h.1, Wr.step fr nw h.2⟩
set_option maxRecDepth 100000 in
set_option maxHeartbeats 1000000 in
theorem wfloat_any (f : Nat) (hf : f < 18446744073709551616) (hfin : finB f = true) (w : World) (hw : WS w 28 p g M e) (hsum : M.length + 64 ≤ 140737488355328) :
    Calls Tryz.prog 29 #[.pointer (some ⟨p, 0, none⟩), .float .f64 f] w fun x w' => x = .returned (.tuple #[]) ∧ Wr w w' 28 p g (wA M e (b8 f)) e := by
  have HFX := Hid.mk' (fun (n : Nat) (hn : n < 4294967296) (v : Int) (hv : v = (n : Int)) (P : List UInt8) (hP : P.length ≤ 50) (wx : World) hx => wfix_wr (p := p) (g := g) (M := M) (e := e) w hsum n hn v hv P hP wx hx)
  have h0 : Hid (Wr w w 28 p g (wA M e []) e) := by show Wr _ _ _ _ _ _ _; rw [wA_nil]; exact hw.wr
  have h1 : finN f = true := by unfold finB at hfin; simp at hfin; exact hfin.1
  have h2 : f ≠ 9223372036854775808 := by unfold finB at hfin; simp at hfin; exact hfin.2
  have HF := Hid.mk' (fun (wx : World) => fin_any f wx hf)
  rw [h1] at HF
  have hff : ffin f := by unfold finN at h1; unfold ffin; simp at h1; omega
  clear hw hsum hfin h1
  by_cases hz : f = 0
  · subst hz
    have z : (FloatKind.f64.format.order 0 0 == some .eq) = true := by decide +kernel
    go_enter Tryz.func29, Tryz.ntmps29
    go_wp2_with fail
    refine (HF.out _).mono ?_
    rintro x w1 ⟨rfl, hw1⟩
    subst hw1
    go_wp2_with fail
    refine (HFX.out 0 (by decide) _ (by first | rfl | omega) [] (by decide) _ h0.out).mono ?_
    rintro x w2 ⟨rfl, a2⟩
    have A2 := Hid.mk' a2
    clear a2
    go_wp2_with fail
    refine (HFX.out 0 (by decide) _ (by first | rfl | omega) _ (by simp [b4]) _ A2.out).mono ?_
    rintro x w3 ⟨rfl, a3⟩
    have A3 := Hid.mk' a3
    clear a3
    go_wp2
    go_end0
    exact ⟨rfl, A3.out⟩
  · have z : (FloatKind.f64.format.order f 0 == some .eq) = false := by
      have : (FloatKind.f64.format.order f 0 != some .eq) = true := ford_zero f hff (by omega)
      simpa [bne] using this
    go_enter Tryz.func29, Tryz.ntmps29
    go_wp2_with fail
    refine (HF.out _).mono ?_
    rintro x w1 ⟨rfl, hw1⟩
    subst hw1
    go_wp2_with fail
    refine (HFX.out (f / 4294967296) (by omega) _ (by first | rfl | omega | (simp only [IntKind.wrap_u32]; omega)) [] (by decide) _ h0.out).mono ?_
    rintro x w2 ⟨rfl, a2⟩
    have A2 := Hid.mk' a2
    clear a2
    go_wp2_with fail
    refine (HFX.out (f % 4294967296) (by omega) _ (by first | rfl | omega | (simp only [IntKind.wrap_u32]; omega)) _ (by simp [b4]) _ A2.out).mono ?_
    rintro x w3 ⟨rfl, a3⟩
    have A3 := Hid.mk' a3
    clear a3
    go_wp2
    go_end0
    exact ⟨rfl, A3.out⟩
end Go.Proofs.YtdnocpngdepbgaaGreatDoor.K

namespace Go.Proofs.YtdnocpngdepbgaaGreatDoor.K
open Go.RowKit
set_option linter.unusedVariables false
set_option linter.unusedSimpArgs false

/-- What was read as a number is written so. -/
theorem numL_canon (len k : Nat) : ∀ (l : List UInt8) (i v : Nat), (numL len k l i v).why = 0 → ∃ u, (numL len k l i v).v = v + u * 2 ^ (7 * i) ∧ (numL len k l i v).size = i + (vint u).length ∧ l.take (vint u).length = vint u ∧ (0 < i → 0 < u)
  | [], i, v, h => by simp [numL] at h
  | b :: t, i, v, h => by
    unfold numL at h ⊢
    split at h
    · simp at h
    · rename_i h1
      rw [if_neg h1]
      split at h
      · rename_i h2
        rw [if_pos h2]
        refine ⟨b.toNat, rfl, by rw [vint_lt h2]; rfl, ?_, fun h0 => by omega⟩
        rw [vint_lt h2]
        simp
      · rename_i h2
        rw [if_neg h2]
        obtain ⟨u, q1, q2, q3, q4⟩ := numL_canon len k t (i + 1) (v + (b.toNat - 128) * 2 ^ (7 * i)) h
        have hu := q4 (by omega)
        have hb := b.toNat_lt
        have e : vint ((b.toNat - 128) + 128 * u) = b :: vint u := by
          rw [vint_ge (by omega), show ((b.toNat - 128) + 128 * u) / 128 = u by omega, show ((b.toNat - 128) + 128 * u) % 128 + 128 = b.toNat by omega]
          simp
        refine ⟨(b.toNat - 128) + 128 * u, ?_, ?_, ?_, fun _ => by omega⟩
        · rw [q1]
          have e2 : 2 ^ (7 * (i + 1)) = 128 * 2 ^ (7 * i) := by rw [Nat.mul_add, Nat.pow_add]; omega
          rw [e2, Nat.add_mul, Nat.mul_comm 128 u, Nat.mul_assoc u]
          omega
        · rw [q2, e]
          simp
          omega
        · rw [e]
          simp [q3]
theorem num_canon (L : List UInt8) (k : Nat) (h : (num L k).why = 0) : (num L k).size = (vint (num L k).v).length ∧ (L.drop k).take (num L k).size = vint (num L k).v := by
  obtain ⟨u, q1, q2, q3, _⟩ := numL_canon L.length k (L.drop k) 0 0 h
  have e1 : (num L k).v = u := by unfold num; rw [q1]; simp
  have e2 : (num L k).size = (vint u).length := by unfold num; rw [q2]; simp
  rw [e1, e2]
  exact ⟨rfl, q3⟩
theorem cut_app (L : List UInt8) (k m n : Nat) : cut L k (m + n) = cut L k m ++ cut L (k + m) n := by
  unfold cut
  rw [List.take_add, List.drop_drop]
theorem num_cut (L : List UInt8) (k n : Nat) (h : (num L k).why = 0) : cut L k ((num L k).size + n) = vint (num L k).v ++ cut L (k + (num L k).size) n := by
  rw [cut_app]
  congr 1
  exact (num_canon L k h).2
theorem cut4 (L : List UInt8) (k : Nat) (h : k + 4 ≤ L.length) : cut L k 4 = [L.getD k 0, L.getD (k + 1) 0, L.getD (k + 2) 0, L.getD (k + 3) 0] := by
  unfold cut
  rw [drop_cons L k (by omega), drop_cons L (k + 1) (by omega), drop_cons L (k + 1 + 1) (by omega), drop_cons L (k + 1 + 1 + 1) (by omega)]
  rfl
theorem be_cut4 (L : List UInt8) (k : Nat) (h : k + 4 ≤ L.length) : b4 (be L k 4) = cut L k 4 := by
  rw [cut4 L k h]
  unfold b4
  have h0 := (L.getD k 0).toNat_lt
  have h1 := (L.getD (k + 1) 0).toNat_lt
  have h2 := (L.getD (k + 2) 0).toNat_lt
  have h3 := (L.getD (k + 3) 0).toNat_lt
  have e : be L k 4 = (((L.getD k 0).toNat * 256 + (L.getD (k + 1) 0).toNat) * 256 + (L.getD (k + 2) 0).toNat) * 256 + (L.getD (k + 3) 0).toNat := by
    simp [be]
  rw [e]
  generalize L.getD k 0 = x0 at *
  generalize L.getD (k + 1) 0 = x1 at *
  generalize L.getD (k + 2) 0 = x2 at *
  generalize L.getD (k + 3) 0 = x3 at *
  have key : ∀ (n : Nat) (x : UInt8), n % 256 = x.toNat → UInt8.ofNat n = x := fun n x hx => by
    apply UInt8.toNat_inj.1
    rw [UInt8.toNat_ofNat']
    exact hx
  rw [key _ x0 (by omega), key _ x1 (by omega), key _ x2 (by omega), key _ x3 (by omega)]
theorem be_cut8 (L : List UInt8) (k : Nat) (h : k + 8 ≤ L.length) : b8 (be L k 8) = cut L k 8 := by
  unfold b8
  have h4 := be_lt L (k + 4) 4
  have e4 : (256 : Nat) ^ 4 = 4294967296 := by decide
  rw [e4] at h4
  rw [be_8, show (be L k 4 * 4294967296 + be L (k + 4) 4) / 4294967296 = be L k 4 by omega, show (be L k 4 * 4294967296 + be L (k + 4) 4) % 4294967296 = be L (k + 4) 4 by omega, be_cut4 L k (by omega), be_cut4 L (k + 4) (by omega)]
  exact (cut_app L k 4 4).symm
theorem zig_unzig (v : Nat) : zig (unzig v) = v := by
  unfold zig unzig
  split <;> split <;> omega
theorem unzig_lo (v : Nat) (h : v < 18446744073709551616) : -9223372036854775808 ≤ unzig v ∧ unzig v < 9223372036854775808 := by
  unfold unzig
  split <;> omega
/-- A text that is good to its end is valid. -/
theorem good_valid : ∀ (f : Nat) (l : List UInt8), l.length ≤ f → goodF f l = l.length → Lib.validD l = true
  | 0, l, hf, _ => by
    obtain rfl : l = [] := List.eq_nil_of_length_eq_zero (by omega)
    rfl
  | f + 1, l, hf, hg => by
    by_cases h0 : l.length = 0
    · obtain rfl : l = [] := List.eq_nil_of_length_eq_zero h0
      rfl
    · unfold goodF at hg
      rw [if_neg h0] at hg
      by_cases h1 : wd l = 0
      · rw [if_pos h1] at hg; omega
      · rw [if_neg h1] at hg
        have hwd := wd_dec l
        have hne : l ≠ [] := fun e => h0 (by rw [e]; rfl)
        rw [Lib.validD_step l hne]
        split at hwd
        · omega
        · rename_i hd
          rw [if_neg hd, ← hwd]
          have hle := wdl_le l (by omega)
          exact good_valid f (l.drop (wd l)) (by rw [List.length_drop]; omega) (by rw [List.length_drop]; omega)

variable {T : TypeId} {r cap : Nat} {a : Option Addr} {L : List UInt8} {s : St}
set_option maxRecDepth 100000 in
theorem hashes_no (most : Int) (hm0 : -9223372036854775808 ≤ most) (hm : most < 9223372036854775808) (w : World) (h : RD w T r a cap L s) (hb : s.bad = 0) (hno : ¬ Fits L s.k most 32) :
    Calls Tryz.prog 80 #[.pointer (some ⟨r, 0, none⟩), .int .i64 most] w fun e w' => e = .returned (.slice none 0 0) ∧ Flt w w' T r a cap L s := by
  have HS := Hid.mk' (stopped_any w h)
  rw [show decide (s.bad ≠ 0) = false by simp [hb]] at HS
  have HC : Hid (Calls Tryz.prog 107 #[.pointer (some ⟨r, 0, none⟩), .int .i64 most, .int .i64 32] w fun e w' => e = .returned (.tuple #[.slice none 0 0, .int .i64 0, .bool false]) ∧ Flt w w' T r a cap L s) := counted_no 32 (.inr rfl) most hm0 hm w h hb hno
  clear h hno
  go_enter Tryz.func80, Tryz.ntmps80
  go_wp2_with fail
  refine HS.out.mono ?_
  rintro e w1 ⟨rfl, hw1⟩
  subst hw1
  go_wp2_with fail
  refine HC.out.mono ?_
  rintro e w2 ⟨rfl, ho⟩
  have HO := Hid.mk' ho
  clear ho
  go_wp2
  go_ret
  exact ⟨rfl, HO.out⟩
set_option maxRecDepth 100000 in
theorem raw_stop (most : Int) (w : World) (h : RD w T r a cap L s) (hb : s.bad ≠ 0) :
    Calls Tryz.prog 78 #[.pointer (some ⟨r, 0, none⟩), .int .i64 most] w fun e w' => e = .returned (.slice none 0 0) ∧ Flt w w' T r a cap L s := by
  have HS := Hid.mk' (stopped_any w h)
  rw [show decide (s.bad ≠ 0) = true by simp [hb]] at HS
  have HO : Hid (Flt w w T r a cap L s) := ⟨s, hb, rfl, h.on⟩
  clear h hb
  go_enter Tryz.func78, Tryz.ntmps78
  go_wp2_with fail
  refine HS.out.mono ?_
  rintro e w1 ⟨rfl, hw1⟩
  subst hw1
  go_wp2
  go_ret
  exact ⟨rfl, HO.out⟩
set_option maxRecDepth 100000 in
theorem text_stop (most : Int) (w : World) (h : RD w T r a cap L s) (hb : s.bad ≠ 0) :
    Calls Tryz.prog 32 #[.pointer (some ⟨r, 0, none⟩), .int .i64 most] w fun e w' => e = .returned (.string ⟨#[]⟩) ∧ Flt w w' T r a cap L s := by
  have HS := Hid.mk' (stopped_any w h)
  rw [show decide (s.bad ≠ 0) = true by simp [hb]] at HS
  have HO : Hid (Flt w w T r a cap L s) := ⟨s, hb, rfl, h.on⟩
  clear h hb
  go_enter Tryz.func32, Tryz.ntmps32
  go_wp2_with fail
  refine HS.out.mono ?_
  rintro e w1 ⟨rfl, hw1⟩
  subst hw1
  go_wp2
  go_ret
  exact ⟨rfl, HO.out⟩
set_option maxRecDepth 100000 in
theorem hashes_stop (most : Int) (w : World) (h : RD w T r a cap L s) (hb : s.bad ≠ 0) :
    Calls Tryz.prog 80 #[.pointer (some ⟨r, 0, none⟩), .int .i64 most] w fun e w' => e = .returned (.slice none 0 0) ∧ Flt w w' T r a cap L s := by
  have HS := Hid.mk' (stopped_any w h)
  rw [show decide (s.bad ≠ 0) = true by simp [hb]] at HS
  have HO : Hid (Flt w w T r a cap L s) := ⟨s, hb, rfl, h.on⟩
  clear h hb
  go_enter Tryz.func80, Tryz.ntmps80
  go_wp2_with fail
  refine HS.out.mono ?_
  rintro e w1 ⟨rfl, hw1⟩
  subst hw1
  go_wp2
  go_ret
  exact ⟨rfl, HO.out⟩
end Go.Proofs.YtdnocpngdepbgaaGreatDoor.K

namespace Go.Proofs.YtdnocpngdepbgaaGreatDoor.K
open Go.RowKit
set_option linter.unusedVariables false
set_option linter.unusedSimpArgs false

/-- The fault of a length that may not be. -/
def sNo (L : List UInt8) (most : Int) (s : St) : St := if (num L s.k).why = 0 then (if 0 ≤ most ∧ ((num L s.k).v : Int) ≤ most then ⟨s.k, 20, L.length⟩ else ⟨s.k, 6, s.k⟩) else ⟨s.k, (num L s.k).why, (num L s.k).place⟩
variable {T : TypeId} {r cap : Nat} {a : Option Addr} {L : List UInt8} {s : St}
set_option maxRecDepth 100000 in
set_option maxHeartbeats 2000000 in
theorem counted_nox (u : Nat) (hu : u = 1 ∨ u = 32) (most : Int) (hm0 : -9223372036854775808 ≤ most) (hm : most < 9223372036854775808) (w : World) (h : RD w T r a cap L s) (hb : s.bad = 0) (hno : ¬ Fits L s.k most u) :
    Calls Tryz.prog 107 #[.pointer (some ⟨r, 0, none⟩), .int .i64 most, .int .i64 (u : Int)] w fun e w' => e = .returned (.tuple #[.slice none 0 0, .int .i64 0, .bool false]) ∧ On w w' T r a cap L (sNo L most s) := by
  obtain ⟨S, hS⟩ : ∃ S, S = sNo L most s := ⟨_, rfl⟩
  rw [← hS]
  unfold sNo at hS
  have HN := Hid.mk' (number_any w h hb)
  have hok := num_ok L s.k h.at_le
  have HAt := Hid.mk' (fun (wx : World) (hx : On w wx T r a cap L s) => cat_any wx hx.1)
  have HL := Hid.mk' (fun (wx : World) (hx : On w wx T r a cap L s) => cleft_any wx hx.1)
  have hf := h.few
  have hr := h.room
  unfold Fits at hno
  generalize num L s.k = N at *
  obtain ⟨v, sz, why, pl⟩ := N
  simp only at HN hok hno hS ⊢
  by_cases h1 : why = 0
  · subst h1
    have HN' : Hid (Calls Tryz.prog 105 #[.pointer (some ⟨r, 0, none⟩)] w fun e w' => e = .returned (.tuple #[.int .u64 (v : Int), .int .i64 (sz : Int), .bool true]) ∧ On w w' T r a cap L s) := HN.out.mono fun e w' hx => by
      rw [St.fl_ok] at hx
      exact hx
    obtain ⟨k1, k2, k3⟩ := hok.1 rfl
    clear HN h hok
    by_cases h2 : 0 ≤ most ∧ (v : Int) ≤ most
    · rw [if_pos rfl, if_pos h2] at hS
      subst hS
      have h3 : ¬ s.k + sz + v * u ≤ L.length := fun h3 => hno ⟨rfl, h2.1, h2.2, h3⟩
      have HK := Hid.mk' (keep_on (a := a) (cap := cap) (L := L) (T := T) (r := r) w hb 20 (L.length : Int) (by decide))
      have g1 : ¬ most < 0 := by omega
      have g2 : ¬ most < (v : Int) := by omega
      obtain ⟨d, hd⟩ : ∃ d, d = (L.length - (s.k + sz)) / u := ⟨_, rfl⟩
      have hdu : d < v := by
        rcases hu with rfl | rfl
        · rw [hd]; omega
        · rw [hd]; omega
      have hdL : d ≤ L.length := by rcases hu with rfl | rfl <;> omega
      have tq : Int.tdiv ((L.length : Int) - (s.k : Int) - (sz : Int)) (u : Int) = (d : Int) := by
        rw [Int.tdiv_eq_ediv_of_nonneg (by omega)]
        rcases hu with rfl | rfl <;> omega
      have g3 : (d : Int) < (v : Int) := by omega
      have hq : ((u : Nat) : Int) ≠ 0 := by omega
      have hlim : (L.length : Int) - (s.k : Int) - (sz : Int) < 9223372036854775808 := by omega
      rcases hu with rfl | rfl
      · clear hd hno h3 h2
        have g4 : ((L.length : Int) - (s.k : Int) - (sz : Int)) < (v : Int) := by
          have e : Int.tdiv ((L.length : Int) - (s.k : Int) - (sz : Int)) 1 = (L.length : Int) - (s.k : Int) - (sz : Int) := by rw [Int.tdiv_eq_ediv_of_nonneg (by omega)]; omega
          have := tq
          rw [show ((1 : Nat) : Int) = 1 from rfl, e] at this
          omega
        rw [show ((1 : Nat) : Int) = 1 from rfl]
        go_enter Tryz.func107, Tryz.ntmps107
        go_wp2_with fail
        refine HN'.out.mono ?_
        rintro e w1 ⟨rfl, ho⟩
        have HON := Hid.mk' ho
        have c0 := ho.1.c0
        have c1 := ho.1.c1
        clear ho
        go_wp2_with fail
        refine (HL.out w1 HON.out).mono ?_
        rintro e w2 ⟨rfl, m, hw2⟩
        have HON2 : Hid (On w w2 T r a cap L s) := by show On _ _ _ _ _ _ _ _; rw [hw2]; exact HON.out.drew m
        have c0' := HON2.out.1.c0
        clear hw2 HON c0 c1
        go_wp2_with fail
        refine (HK.out w2 HON2.out).mono ?_
        rintro e w3 ⟨rfl, ho⟩
        have HO2 := Hid.mk' ho
        clear ho
        go_wp2
        go_ret3
        exact ⟨rfl, HO2.out⟩
      · clear hd hno h3 h2
        rw [show ((32 : Nat) : Int) = 32 from rfl] at tq ⊢
        go_enter Tryz.func107, Tryz.ntmps107
        go_wp2_with fail
        refine HN'.out.mono ?_
        rintro e w1 ⟨rfl, ho⟩
        have HON := Hid.mk' ho
        have c0 := ho.1.c0
        have c1 := ho.1.c1
        clear ho
        go_wp2_with fail
        refine (HL.out w1 HON.out).mono ?_
        rintro e w2 ⟨rfl, m, hw2⟩
        have HON2 : Hid (On w w2 T r a cap L s) := by show On _ _ _ _ _ _ _ _; rw [hw2]; exact HON.out.drew m
        have c0' := HON2.out.1.c0
        clear hw2 HON c0 c1
        go_wp2_with fail
        refine (HK.out w2 HON2.out).mono ?_
        rintro e w3 ⟨rfl, ho⟩
        have HO2 := Hid.mk' ho
        clear ho
        go_wp2
        go_ret3
        exact ⟨rfl, HO2.out⟩
    · rw [if_pos rfl, if_neg h2] at hS
      subst hS
      have HK := Hid.mk' (keep_on (a := a) (cap := cap) (L := L) (T := T) (r := r) w hb 6 (s.k : Int) (by decide))
      by_cases g1 : most < 0
      · go_enter Tryz.func107, Tryz.ntmps107
        go_wp2_with fail
        refine HN'.out.mono ?_
        rintro e w1 ⟨rfl, ho⟩
        have HON := Hid.mk' ho
        clear ho
        go_wp2_with fail
        refine (HAt.out w1 HON.out).mono ?_
        rintro e w2 ⟨rfl, hw2⟩
        subst hw2
        go_wp2_with fail
        refine (HK.out w2 HON.out).mono ?_
        rintro e w3 ⟨rfl, ho⟩
        have HO2 := Hid.mk' ho
        clear ho
        go_wp2
        go_ret3
        exact ⟨rfl, HO2.out⟩
      · have g2 : most < (v : Int) := by omega
        go_enter Tryz.func107, Tryz.ntmps107
        go_wp2_with fail
        refine HN'.out.mono ?_
        rintro e w1 ⟨rfl, ho⟩
        have HON := Hid.mk' ho
        clear ho
        go_wp2_with fail
        refine (HAt.out w1 HON.out).mono ?_
        rintro e w2 ⟨rfl, hw2⟩
        subst hw2
        go_wp2_with fail
        refine (HK.out w2 HON.out).mono ?_
        rintro e w3 ⟨rfl, ho⟩
        have HO2 := Hid.mk' ho
        clear ho
        go_wp2
        go_ret3
        exact ⟨rfl, HO2.out⟩
  · rw [if_neg h1] at hS
    subst hS
    have HN' : Hid (Calls Tryz.prog 105 #[.pointer (some ⟨r, 0, none⟩)] w fun e w' => e = .returned (.tuple #[.int .u64 (v : Int), .int .i64 (sz : Int), .bool false]) ∧ On w w' T r a cap L ⟨s.k, why, pl⟩) := HN.out.mono fun e w' hx => by
      rw [St.fl_new s _ _ hb h1] at hx
      rw [show decide (why = 0) = false by simp [h1]] at hx
      exact hx
    have H1 := Hid.mk' h1
    clear HN h
    go_enter Tryz.func107, Tryz.ntmps107
    go_wp2_with fail
    refine HN'.out.mono ?_
    rintro e w1 ⟨rfl, ho⟩
    have HO2 := Hid.mk' ho
    clear ho
    go_wp2
    go_ret3
    exact ⟨rfl, HO2.out⟩
set_option maxRecDepth 100000 in
theorem raw_nox (most : Int) (hm0 : -9223372036854775808 ≤ most) (hm : most < 9223372036854775808) (w : World) (h : RD w T r a cap L s) (hb : s.bad = 0) (hno : ¬ Fits L s.k most 1) :
    Calls Tryz.prog 78 #[.pointer (some ⟨r, 0, none⟩), .int .i64 most] w fun e w' => e = .returned (.slice none 0 0) ∧ On w w' T r a cap L (sNo L most s) := by
  have HS := Hid.mk' (stopped_any w h)
  rw [show decide (s.bad ≠ 0) = false by simp [hb]] at HS
  have HC : Hid (Calls Tryz.prog 107 #[.pointer (some ⟨r, 0, none⟩), .int .i64 most, .int .i64 1] w fun e w' => e = .returned (.tuple #[.slice none 0 0, .int .i64 0, .bool false]) ∧ On w w' T r a cap L (sNo L most s)) := counted_nox 1 (.inl rfl) most hm0 hm w h hb hno
  clear h hno
  go_enter Tryz.func78, Tryz.ntmps78
  go_wp2_with fail
  refine HS.out.mono ?_
  rintro e w1 ⟨rfl, hw1⟩
  subst hw1
  go_wp2_with fail
  refine HC.out.mono ?_
  rintro e w2 ⟨rfl, ho⟩
  have HO := Hid.mk' ho
  clear ho
  go_wp2
  go_ret
  exact ⟨rfl, HO.out⟩
set_option maxRecDepth 100000 in
theorem text_nox (most : Int) (hm0 : -9223372036854775808 ≤ most) (hm : most < 9223372036854775808) (w : World) (h : RD w T r a cap L s) (hb : s.bad = 0) (hno : ¬ Fits L s.k most 1) :
    Calls Tryz.prog 32 #[.pointer (some ⟨r, 0, none⟩), .int .i64 most] w fun e w' => e = .returned (.string ⟨#[]⟩) ∧ On w w' T r a cap L (sNo L most s) := by
  have HS := Hid.mk' (stopped_any w h)
  rw [show decide (s.bad ≠ 0) = false by simp [hb]] at HS
  have HC : Hid (Calls Tryz.prog 107 #[.pointer (some ⟨r, 0, none⟩), .int .i64 most, .int .i64 1] w fun e w' => e = .returned (.tuple #[.slice none 0 0, .int .i64 0, .bool false]) ∧ On w w' T r a cap L (sNo L most s)) := counted_nox 1 (.inl rfl) most hm0 hm w h hb hno
  clear h hno
  go_enter Tryz.func32, Tryz.ntmps32
  go_wp2_with fail
  refine HS.out.mono ?_
  rintro e w1 ⟨rfl, hw1⟩
  subst hw1
  go_wp2_with fail
  refine HC.out.mono ?_
  rintro e w2 ⟨rfl, ho⟩
  have HO := Hid.mk' ho
  clear ho
  go_wp2
  go_ret
  exact ⟨rfl, HO.out⟩
set_option maxRecDepth 100000 in
theorem hashes_nox (most : Int) (hm0 : -9223372036854775808 ≤ most) (hm : most < 9223372036854775808) (w : World) (h : RD w T r a cap L s) (hb : s.bad = 0) (hno : ¬ Fits L s.k most 32) :
    Calls Tryz.prog 80 #[.pointer (some ⟨r, 0, none⟩), .int .i64 most] w fun e w' => e = .returned (.slice none 0 0) ∧ On w w' T r a cap L (sNo L most s) := by
  have HS := Hid.mk' (stopped_any w h)
  rw [show decide (s.bad ≠ 0) = false by simp [hb]] at HS
  have HC : Hid (Calls Tryz.prog 107 #[.pointer (some ⟨r, 0, none⟩), .int .i64 most, .int .i64 32] w fun e w' => e = .returned (.tuple #[.slice none 0 0, .int .i64 0, .bool false]) ∧ On w w' T r a cap L (sNo L most s)) := counted_nox 32 (.inr rfl) most hm0 hm w h hb hno
  clear h hno
  go_enter Tryz.func80, Tryz.ntmps80
  go_wp2_with fail
  refine HS.out.mono ?_
  rintro e w1 ⟨rfl, hw1⟩
  subst hw1
  go_wp2_with fail
  refine HC.out.mono ?_
  rintro e w2 ⟨rfl, ho⟩
  have HO := Hid.mk' ho
  clear ho
  go_wp2
  go_ret
  exact ⟨rfl, HO.out⟩
set_option maxRecDepth 100000 in
theorem raw_stopx (most : Int) (w : World) (h : RD w T r a cap L s) (hb : s.bad ≠ 0) :
    Calls Tryz.prog 78 #[.pointer (some ⟨r, 0, none⟩), .int .i64 most] w fun e w' => e = .returned (.slice none 0 0) ∧ On w w' T r a cap L s := by
  have HS := Hid.mk' (stopped_any w h)
  rw [show decide (s.bad ≠ 0) = true by simp [hb]] at HS
  have HO : Hid (On w w T r a cap L s) := h.on
  clear h hb
  go_enter Tryz.func78, Tryz.ntmps78
  go_wp2_with fail
  refine HS.out.mono ?_
  rintro e w1 ⟨rfl, hw1⟩
  subst hw1
  go_wp2
  go_ret
  exact ⟨rfl, HO.out⟩
set_option maxRecDepth 100000 in
theorem text_stopx (most : Int) (w : World) (h : RD w T r a cap L s) (hb : s.bad ≠ 0) :
    Calls Tryz.prog 32 #[.pointer (some ⟨r, 0, none⟩), .int .i64 most] w fun e w' => e = .returned (.string ⟨#[]⟩) ∧ On w w' T r a cap L s := by
  have HS := Hid.mk' (stopped_any w h)
  rw [show decide (s.bad ≠ 0) = true by simp [hb]] at HS
  have HO : Hid (On w w T r a cap L s) := h.on
  clear h hb
  go_enter Tryz.func32, Tryz.ntmps32
  go_wp2_with fail
  refine HS.out.mono ?_
  rintro e w1 ⟨rfl, hw1⟩
  subst hw1
  go_wp2
  go_ret
  exact ⟨rfl, HO.out⟩
set_option maxRecDepth 100000 in
theorem hashes_stopx (most : Int) (w : World) (h : RD w T r a cap L s) (hb : s.bad ≠ 0) :
    Calls Tryz.prog 80 #[.pointer (some ⟨r, 0, none⟩), .int .i64 most] w fun e w' => e = .returned (.slice none 0 0) ∧ On w w' T r a cap L s := by
  have HS := Hid.mk' (stopped_any w h)
  rw [show decide (s.bad ≠ 0) = true by simp [hb]] at HS
  have HO : Hid (On w w T r a cap L s) := h.on
  clear h hb
  go_enter Tryz.func80, Tryz.ntmps80
  go_wp2_with fail
  refine HS.out.mono ?_
  rintro e w1 ⟨rfl, hw1⟩
  subst hw1
  go_wp2
  go_ret
  exact ⟨rfl, HO.out⟩
end Go.Proofs.YtdnocpngdepbgaaGreatDoor.K

namespace Go.Proofs.YtdnocpngdepbgaaGreatDoor.K
open Go.RowKit
set_option linter.unusedVariables false
set_option linter.unusedSimpArgs false

variable {T : TypeId} {r cap : Nat} {a : Option Addr} {L : List UInt8} {s : St}
set_option maxRecDepth 100000 in
set_option maxHeartbeats 2000000 in
theorem qlen_yes1 (most : Int) (hm : most < 9223372036854775808) (w : World) (h : RD w T r a cap L s) (hb : s.bad = 0) (n hd : Nat) (pl : Int) (hN : num L s.k = ⟨n, hd, 0, pl⟩) (h2 : (n : Int) ≤ most) (h3 : s.k + hd + n * 1 ≤ L.length) :
    Calls Tryz.prog 125 #[.pointer (some ⟨r, 0, none⟩), .int .i64 most, .int .i64 1] w fun e w' => e = .returned (.tuple #[.int .i64 (n : Int), .int .i64 ((s.k : Int) + (hd : Int)), .bool true]) ∧ On w w' T r a cap L s := by
  have hok := num_ok L s.k h.at_le
  rw [hN] at hok
  obtain ⟨k1, k2, k3⟩ := hok.1 rfl
  simp only at k1 k2 k3
  have HN' := Hid.mk' (qnum_ok w h hb n hd pl hN)
  have hf := h.few
  have c2 := h.c2
  rw [hb] at c2
  clear h hN hok
  have g0 : ¬ (hd : Int) = 0 := by omega
  have g1 : ¬ most < 0 := by omega
  have g2 : ¬ most < (n : Int) := by omega
  have g3 : ¬ ((L.length : Int) - ((s.k : Int) + (hd : Int))) < (n : Int) := by omega
  go_enter Tryz.func125, Tryz.ntmps125
  go_wp2_with fail
  refine HN'.out.mono ?_
  rintro e w1 ⟨rfl, ho⟩
  have HON := Hid.mk' ho
  have c0 := ho.1.c0
  have c1 := ho.1.c1
  clear ho
  go_wp2
  try (go_quiet (fail); go_wp2)
  try (go_quiet (fail); go_wp2)
  go_ret3
  exact ⟨rfl, by first | exact HON.out | exact HON.out.drew _ | exact (HON.out.drew _).drew _⟩
set_option maxRecDepth 100000 in
set_option maxHeartbeats 2000000 in
theorem qlen_yes32 (most : Int) (hm : most < 9223372036854775808) (w : World) (h : RD w T r a cap L s) (hb : s.bad = 0) (n hd : Nat) (pl : Int) (hN : num L s.k = ⟨n, hd, 0, pl⟩) (h2 : (n : Int) ≤ most) (h3 : s.k + hd + n * 32 ≤ L.length) :
    Calls Tryz.prog 125 #[.pointer (some ⟨r, 0, none⟩), .int .i64 most, .int .i64 32] w fun e w' => e = .returned (.tuple #[.int .i64 (n : Int), .int .i64 ((s.k : Int) + (hd : Int)), .bool true]) ∧ On w w' T r a cap L s := by
  have hok := num_ok L s.k h.at_le
  rw [hN] at hok
  obtain ⟨k1, k2, k3⟩ := hok.1 rfl
  simp only at k1 k2 k3
  have HN' := Hid.mk' (qnum_ok w h hb n hd pl hN)
  have hf := h.few
  have c2 := h.c2
  rw [hb] at c2
  clear h hN hok
  have g0 : ¬ (hd : Int) = 0 := by omega
  have g1 : ¬ most < 0 := by omega
  have g2 : ¬ most < (n : Int) := by omega
  obtain ⟨d, hd'⟩ : ∃ d, d = (L.length - (s.k + hd)) / 32 := ⟨_, rfl⟩
  have tq : Int.tdiv ((L.length : Int) - ((s.k : Int) + (hd : Int))) 32 = (d : Int) := by rw [Int.tdiv_eq_ediv_of_nonneg (by omega)]; omega
  have hvd : n ≤ d := by omega
  have hdL : d ≤ L.length := by omega
  have g3 : ¬ (d : Int) < (n : Int) := by omega
  clear hd'
  go_enter Tryz.func125, Tryz.ntmps125
  go_wp2_with fail
  refine HN'.out.mono ?_
  rintro e w1 ⟨rfl, ho⟩
  have HON := Hid.mk' ho
  have c0 := ho.1.c0
  have c1 := ho.1.c1
  clear ho
  go_wp2
  try (go_quiet (fail); go_wp2)
  try (go_quiet (fail); go_wp2)
  go_ret3
  exact ⟨rfl, by first | exact HON.out | exact HON.out.drew _ | exact (HON.out.drew _).drew _⟩
set_option maxRecDepth 100000 in
set_option maxHeartbeats 2000000 in
theorem qlen_no1 (most : Int) (hm0 : -9223372036854775808 ≤ most) (hm : most < 9223372036854775808) (w : World) (h : RD w T r a cap L s) (hb : s.bad = 0) (hno : ¬ Fits L s.k most 1) :
    Calls Tryz.prog 125 #[.pointer (some ⟨r, 0, none⟩), .int .i64 most, .int .i64 1] w fun e w' => e = .returned (.tuple #[.int .i64 0, .int .i64 0, .bool false]) ∧ On w w' T r a cap L (sNo L most s) := by
  obtain ⟨S, hS⟩ : ∃ S, S = sNo L most s := ⟨_, rfl⟩
  rw [← hS]
  unfold sNo at hS
  unfold Fits at hno
  have hok := num_ok L s.k h.at_le
  have hf := h.few
  have c2 := h.c2
  rw [hb] at c2
  rcases hN : num L s.k with ⟨v, sz, why, pl⟩
  rw [hN] at hok hno hS
  simp only at hok hno hS
  by_cases h1 : why = 0
  · subst h1
    rw [if_pos rfl] at hS
    have HN' := Hid.mk' (qnum_ok w h hb v sz pl hN)
    obtain ⟨k1, k2, k3⟩ := hok.1 rfl
    have g0 : ¬ (sz : Int) = 0 := by omega
    clear h hok hN
    by_cases h2 : 0 ≤ most ∧ (v : Int) ≤ most
    · rw [if_pos h2] at hS
      subst hS
      have h3 : ¬ s.k + sz + v * 1 ≤ L.length := fun h3 => hno ⟨rfl, h2.1, h2.2, h3⟩
      have HK := Hid.mk' (qfail_on (a := a) (cap := cap) (L := L) (T := T) (r := r) w hb 20 (L.length : Int) (by decide))
      have g1 : ¬ most < 0 := by omega
      have g2 : ¬ most < (v : Int) := by omega
      have g3 : ((L.length : Int) - ((s.k : Int) + (sz : Int))) < (v : Int) := by omega
      clear hno h3 h2
      go_enter Tryz.func125, Tryz.ntmps125
      go_wp2_with fail
      refine HN'.out.mono ?_
      rintro e w1 ⟨rfl, ho⟩
      have HON := Hid.mk' ho
      have c0 := ho.1.c0
      have c1 := ho.1.c1
      clear ho
      go_wp2_with fail
      refine (HK.out _ HON.out).mono ?_
      rintro e w3 ⟨rfl, ho⟩
      have HO2 := Hid.mk' ho
      clear ho
      go_wp2
      go_ret3
      exact ⟨rfl, HO2.out⟩
    · rw [if_neg h2] at hS
      subst hS
      have HK := Hid.mk' (qfail_on (a := a) (cap := cap) (L := L) (T := T) (r := r) w hb 6 (s.k : Int) (by decide))
      by_cases g1 : most < 0
      · skip
        clear hno h2
        go_enter Tryz.func125, Tryz.ntmps125
        go_wp2_with fail
        refine HN'.out.mono ?_
        rintro e w1 ⟨rfl, ho⟩
        have HON := Hid.mk' ho
        have c1 := ho.1.c1
        clear ho
        go_wp2_with fail
        refine (HK.out _ HON.out).mono ?_
        rintro e w3 ⟨rfl, ho⟩
        have HO2 := Hid.mk' ho
        clear ho
        go_wp2
        go_ret3
        exact ⟨rfl, HO2.out⟩
      · have g2 : most < (v : Int) := by omega
        clear hno h2
        go_enter Tryz.func125, Tryz.ntmps125
        go_wp2_with fail
        refine HN'.out.mono ?_
        rintro e w1 ⟨rfl, ho⟩
        have HON := Hid.mk' ho
        have c1 := ho.1.c1
        clear ho
        go_wp2_with fail
        refine (HK.out _ HON.out).mono ?_
        rintro e w3 ⟨rfl, ho⟩
        have HO2 := Hid.mk' ho
        clear ho
        go_wp2
        go_ret3
        exact ⟨rfl, HO2.out⟩
  · rw [if_neg h1] at hS
    subst hS
    have HN' := Hid.mk' (qnum_no w h hb v sz why pl hN h1)
    clear h hN hok hno
    go_enter Tryz.func125, Tryz.ntmps125
    go_wp2_with fail
    refine HN'.out.mono ?_
    rintro e w1 ⟨rfl, ho⟩
    have HO2 := Hid.mk' ho
    clear ho
    go_wp2
    go_ret3
    exact ⟨rfl, HO2.out⟩
set_option maxRecDepth 100000 in
set_option maxHeartbeats 2000000 in
theorem qlen_no32 (most : Int) (hm0 : -9223372036854775808 ≤ most) (hm : most < 9223372036854775808) (w : World) (h : RD w T r a cap L s) (hb : s.bad = 0) (hno : ¬ Fits L s.k most 32) :
    Calls Tryz.prog 125 #[.pointer (some ⟨r, 0, none⟩), .int .i64 most, .int .i64 32] w fun e w' => e = .returned (.tuple #[.int .i64 0, .int .i64 0, .bool false]) ∧ On w w' T r a cap L (sNo L most s) := by
  obtain ⟨S, hS⟩ : ∃ S, S = sNo L most s := ⟨_, rfl⟩
  rw [← hS]
  unfold sNo at hS
  unfold Fits at hno
  have hok := num_ok L s.k h.at_le
  have hf := h.few
  have c2 := h.c2
  rw [hb] at c2
  rcases hN : num L s.k with ⟨v, sz, why, pl⟩
  rw [hN] at hok hno hS
  simp only at hok hno hS
  by_cases h1 : why = 0
  · subst h1
    rw [if_pos rfl] at hS
    have HN' := Hid.mk' (qnum_ok w h hb v sz pl hN)
    obtain ⟨k1, k2, k3⟩ := hok.1 rfl
    have g0 : ¬ (sz : Int) = 0 := by omega
    clear h hok hN
    by_cases h2 : 0 ≤ most ∧ (v : Int) ≤ most
    · rw [if_pos h2] at hS
      subst hS
      have h3 : ¬ s.k + sz + v * 32 ≤ L.length := fun h3 => hno ⟨rfl, h2.1, h2.2, h3⟩
      have HK := Hid.mk' (qfail_on (a := a) (cap := cap) (L := L) (T := T) (r := r) w hb 20 (L.length : Int) (by decide))
      have g1 : ¬ most < 0 := by omega
      have g2 : ¬ most < (v : Int) := by omega
      obtain ⟨d, hd⟩ : ∃ d, d = (L.length - (s.k + sz)) / 32 := ⟨_, rfl⟩
      have tq : Int.tdiv ((L.length : Int) - ((s.k : Int) + (sz : Int))) 32 = (d : Int) := by rw [Int.tdiv_eq_ediv_of_nonneg (by omega)]; omega
      have hdL : d ≤ L.length := by omega
      have g3 : (d : Int) < (v : Int) := by omega
      clear hd
      clear hno h3 h2
      go_enter Tryz.func125, Tryz.ntmps125
      go_wp2_with fail
      refine HN'.out.mono ?_
      rintro e w1 ⟨rfl, ho⟩
      have HON := Hid.mk' ho
      have c0 := ho.1.c0
      have c1 := ho.1.c1
      clear ho
      go_wp2_with fail
      refine (HK.out _ HON.out).mono ?_
      rintro e w3 ⟨rfl, ho⟩
      have HO2 := Hid.mk' ho
      clear ho
      go_wp2
      go_ret3
      exact ⟨rfl, HO2.out⟩
    · rw [if_neg h2] at hS
      subst hS
      have HK := Hid.mk' (qfail_on (a := a) (cap := cap) (L := L) (T := T) (r := r) w hb 6 (s.k : Int) (by decide))
      by_cases g1 : most < 0
      · skip
        clear hno h2
        go_enter Tryz.func125, Tryz.ntmps125
        go_wp2_with fail
        refine HN'.out.mono ?_
        rintro e w1 ⟨rfl, ho⟩
        have HON := Hid.mk' ho
        have c1 := ho.1.c1
        clear ho
        go_wp2_with fail
        refine (HK.out _ HON.out).mono ?_
        rintro e w3 ⟨rfl, ho⟩
        have HO2 := Hid.mk' ho
        clear ho
        go_wp2
        go_ret3
        exact ⟨rfl, HO2.out⟩
      · have g2 : most < (v : Int) := by omega
        clear hno h2
        go_enter Tryz.func125, Tryz.ntmps125
        go_wp2_with fail
        refine HN'.out.mono ?_
        rintro e w1 ⟨rfl, ho⟩
        have HON := Hid.mk' ho
        have c1 := ho.1.c1
        clear ho
        go_wp2_with fail
        refine (HK.out _ HON.out).mono ?_
        rintro e w3 ⟨rfl, ho⟩
        have HO2 := Hid.mk' ho
        clear ho
        go_wp2
        go_ret3
        exact ⟨rfl, HO2.out⟩
  · rw [if_neg h1] at hS
    subst hS
    have HN' := Hid.mk' (qnum_no w h hb v sz why pl hN h1)
    clear h hN hok hno
    go_enter Tryz.func125, Tryz.ntmps125
    go_wp2_with fail
    refine HN'.out.mono ?_
    rintro e w1 ⟨rfl, ho⟩
    have HO2 := Hid.mk' ho
    clear ho
    go_wp2
    go_ret3
    exact ⟨rfl, HO2.out⟩
set_option maxRecDepth 100000 in
set_option maxHeartbeats 2000000 in
theorem qlen_stop (most u : Int) (w : World) (h : RD w T r a cap L s) (hb : ¬ s.bad = 0) :
    Calls Tryz.prog 125 #[.pointer (some ⟨r, 0, none⟩), .int .i64 most, .int .i64 u] w fun e w' => e = .returned (.tuple #[.int .i64 0, .int .i64 0, .bool false]) ∧ On w w' T r a cap L s := by
  have HO := Hid.mk' h.on
  have c2 := h.c2
  clear h
  go_enter Tryz.func125, Tryz.ntmps125
  go_wp2
  go_ret3
  exact ⟨rfl, HO.out⟩
end Go.Proofs.YtdnocpngdepbgaaGreatDoor.K

namespace Go.Proofs.YtdnocpngdepbgaaGreatDoor
open Go.RowKit
set_option linter.unusedVariables false
set_option linter.unusedSimpArgs false

/-- What Reader.Fix32 answers. -/
def rFix (L : List UInt8) (s : K.St) : Nat × K.St := if s.bad = 0 then (if s.k + 4 ≤ L.length then (K.be L s.k 4, ⟨s.k + 4, s.bad, s.wh⟩) else (0, ⟨s.k, 20, L.length⟩)) else (0, s)
variable {T : TypeId} {r cap : Nat} {a : Option Addr} {L : List UInt8} {s : K.St}
set_option maxRecDepth 100000 in
set_option maxHeartbeats 1000000 in
theorem rfix_any (w : World) (h : K.RD w T r a cap L s) :
    Calls Tryz.prog 77 #[.pointer (some ⟨r, 0, none⟩)] w fun e w' => e = .returned (.int .u32 ((rFix L s).1 : Int)) ∧ K.On w w' T r a cap L (rFix L s).2 := by
  have HS : Hid (Calls Tryz.prog 104 #[.pointer (some ⟨r, 0, none⟩)] w fun e w' => e = .returned (.bool (decide (s.bad ≠ 0))) ∧ w' = w) := K.stopped_any w h
  by_cases hb : s.bad = 0
  · rw [show decide (s.bad ≠ 0) = false by simp [hb]] at HS
    by_cases hk : s.k + 4 ≤ L.length
    · have e0 : rFix L s = (K.be L s.k 4, ⟨s.k + 4, s.bad, s.wh⟩) := by unfold rFix; rw [if_pos hb, if_pos hk]
      rw [e0]
      have HNx : Hid (Calls Tryz.prog 109 #[.pointer (some ⟨r, 0, none⟩), .int .i64 4] w fun e w' => e = .returned (.tuple #[.slice (K.from23 a cap s.k) 4 (cap - s.k), .bool true]) ∧ ∃ m, w' = w.drewN m) := K.next_ok 4 w h hk
      obtain ⟨b, off, rfl, hcell⟩ : ∃ b off, a = some ⟨b, off, none⟩ ∧ ∀ j, j < L.length → w.cell? ⟨b, off + j, none⟩ = some (.int .u8 (K.at8 L j)) := by
        rcases h.byt with e | h
        · rw [e] at hk; simp at hk
        · exact h
      have hbr : b ≠ r := (h.plain _ rfl).2
      have hroom := h.room
      have e1 : K.from23 (some ⟨b, off, none⟩) cap s.k = some ⟨b, off + s.k, none⟩ := by
        unfold K.from23
        rw [if_neg (by omega)]
        simp [Addr.add_mid]
      rw [e1] at HNx
      have HO : Hid (∀ m m', K.On w (((w.drewN m).setCell ⟨r, 1, none⟩ (.int .i64 ((s.k : Int) + 4))).drewN m') T r (some ⟨b, off, none⟩) cap L ⟨s.k + 4, s.bad, s.wh⟩) := fun m m' => ((h.on.drew m).set1 (s.k + 4) _ (by omega) hk).drew m'
      have HH : Hid (∀ m, Calls Tryz.prog 111 #[.slice (some ⟨b, off + s.k, none⟩) 4 (cap - s.k)] ((w.drewN m).setCell ⟨r, 1, none⟩ (.int .i64 ((s.k : Int) + 4))) fun e w' => e = .returned (.int .u32 (K.be L s.k 4 : Int)) ∧ ∃ m', w' = ((w.drewN m).setCell ⟨r, 1, none⟩ (.int .i64 ((s.k : Int) + 4))).drewN m') := fun m =>
        K.fix_any b (off + s.k) 4 (cap - s.k) L s.k _ (Nat.le_refl _) (fun j hj => by
          rw [World.cell?_setCell_far _ ⟨r, 1, none⟩ _ _ (by show r ≠ b; omega)]
          show w.cell? _ = _
          rw [show off + s.k + j = off + (s.k + j) by omega, hcell _ (by omega)])
      have c1 := h.c1
      have f1 := h.fz 1
      have hf := h.few
      clear h e0 e1 hcell
      generalize cap - s.k = c4 at *
      generalize off + s.k = off4 at *
      generalize K.be L s.k 4 = u at *
      go_enter Tryz.func77, Tryz.ntmps77
      go_wp2_with fail
      refine HS.out.mono ?_
      rintro e w1 ⟨rfl, hw1⟩
      subst hw1
      go_wp2_with fail
      refine HNx.out.mono ?_
      rintro e w2 ⟨rfl, m, rfl⟩
      go_wp2_with fail
      refine (HH.out m).mono ?_
      rintro e w3 ⟨rfl, m', rfl⟩
      go_wp2
      go_ret
      exact ⟨rfl, HO.out m m'⟩
    · have e0 : rFix L s = (0, ⟨s.k, 20, L.length⟩) := by unfold rFix; rw [if_pos hb, if_neg hk]
      rw [e0]
      have HNx : Hid (Calls Tryz.prog 109 #[.pointer (some ⟨r, 0, none⟩), .int .i64 4] w fun e w' => e = .returned (.tuple #[.slice none 0 0, .bool false]) ∧ K.On w w' T r a cap L ⟨s.k, 20, L.length⟩) := K.next_no 4 w h hb hk (by decide)
      clear h e0
      go_enter Tryz.func77, Tryz.ntmps77
      go_wp2_with fail
      refine HS.out.mono ?_
      rintro e w1 ⟨rfl, hw1⟩
      subst hw1
      go_wp2_with fail
      refine HNx.out.mono ?_
      rintro e w2 ⟨rfl, on2⟩
      have HO : Hid (K.On w1 w2 T r a cap L ⟨s.k, 20, L.length⟩) := on2
      clear on2
      go_wp2
      go_ret
      exact ⟨rfl, HO.out⟩
  · rw [show decide (s.bad ≠ 0) = true by simp [hb]] at HS
    have e0 : rFix L s = (0, s) := by unfold rFix; rw [if_neg hb]
    rw [e0]
    have HO : Hid (K.On w w T r a cap L s) := h.on
    clear h e0
    go_enter Tryz.func77, Tryz.ntmps77
    go_wp2_with fail
    refine HS.out.mono ?_
    rintro e w1 ⟨rfl, hw1⟩
    subst hw1
    go_wp2
    go_ret
    exact ⟨rfl, HO.out⟩
end Go.Proofs.YtdnocpngdepbgaaGreatDoor

namespace Go.Proofs.YtdnocpngdepbgaaGreatDoor
open Go.RowKit
set_option linter.unusedVariables false
set_option linter.unusedSimpArgs false

variable {T : TypeId} {r cap : Nat} {a : Option Addr} {L : List UInt8} {s : K.St}
set_option maxRecDepth 100000 in
set_option maxHeartbeats 1000000 in
theorem qleft_any (w : World) (h : K.RD w T r a cap L s) :
    Calls Tryz.prog 100 #[.pointer (some ⟨r, 0, none⟩)] w fun e w' => e = .returned (.int .i64 ((L.length : Int) - (s.k : Int))) ∧ ∃ m, w' = w.drewN m := by
  have c0 := h.c0
  have c1 := h.c1
  have hf := h.few
  have ha := h.at_le
  clear h
  go_enter Tryz.func100, Tryz.ntmps100
  go_wp2
  try (go_quiet (fail); go_wp2)
  go_ret
  first | exact ⟨rfl, 0, rfl⟩ | exact ⟨rfl, _, rfl⟩
set_option maxRecDepth 100000 in
set_option maxHeartbeats 2000000 in
theorem qfix_any (w : World) (h : K.RD w T r a cap L s) :
    Calls Tryz.prog 86 #[.pointer (some ⟨r, 0, none⟩)] w fun e w' => e = .returned (.int .u32 ((rFix L s).1 : Int)) ∧ K.On w w' T r a cap L (rFix L s).2 := by
  by_cases hb : s.bad = 0
  · by_cases hk : s.k + 4 ≤ L.length
    · have HE := K.Hid.mk' (K.qends_ok 4 (by decide) w h hb hk)
      obtain ⟨b, off, ea, hc⟩ := K.rd_cell h
      obtain ⟨rfl, hbr⟩ := ea (by omega)
      have hf := h.few
      have HC : Hid (∀ wx, K.On w wx T r (some ⟨b, off, none⟩) cap L s → ∀ j, j < 4 → wx.cell? ⟨b, off + (s.k + j), none⟩ = some (.int .u8 ((L.getD (s.k + j) 0).toNat : Int))) := fun wx hx j hj => hx.2.cell (p := ⟨b, off + (s.k + j), none⟩) hbr (hc (s.k + j) (by omega))
      have hE : rFix L s = (K.be L s.k 4, ⟨s.k + 4, s.bad, s.wh⟩) := by unfold rFix; rw [if_pos hb, if_pos hk]
      rw [hE]
      have HBL := K.Hid.mk' (K.be_lt L s.k)
      clear h hc ea hE
      go_enter Tryz.func86, Tryz.ntmps86
      go_wp2_with fail
      refine HE.out.mono ?_
      rintro e w1 ⟨rfl, ho⟩
      have HON := K.Hid.mk' ho
      clear ho HE
      go_wp2
      go_loopw [3, 4] (fun n i wr => ∃ j : Nat, n = .int .u32 (K.be L s.k j : Int) ∧ i = .int .i64 (j : Int) ∧ j ≤ 4 ∧ Hid (K.On w wr T r (some ⟨b, off, none⟩) cap L s)) (fun _ i _ => 4 - (intOf i).toNat)
      case atStart => exact ⟨0, rfl, rfl, by omega, HON⟩
      case round =>
        clear HON
        obtain ⟨j, rfl, rfl, hj, HON⟩ := hrel
        by_cases hj8 : j < 4
        · have hj8' : (j : Int) < 4 := by omega
          have cc := HC.out wr HON.out j hj8
          have c0 := HON.out.1.c0
          have c1 := HON.out.1.c1
          have htn : ((s.k : Int) + (j : Int)).toNat = s.k + j := by omega
          have hlt : ((s.k : Int) + (j : Int)) < (L.length : Int) := by omega
          have hbl := HBL.out j
          have hp : 256 ^ j ≤ 256 ^ 3 := Nat.pow_le_pow_right (by omega) (by omega)
          have hbj : K.be L s.k (j + 1) = K.be L s.k j * 256 + (L.getD (s.k + j) 0).toNat := rfl
          have hby := (L.getD (s.k + j) 0).toNat_lt
          generalize (L.getD (s.k + j) 0).toNat = bn at *
          have hB : K.be L s.k j < 16777216 := by omega
          have HBJ := K.Hid.mk' hbj
          clear hbj hbl hp
          generalize K.be L s.k j = B at *
          go_wp2
          go_quiet (fail)
          go_wp2
          exact ⟨⟨j + 1, congrArg _ (by rw [HBJ.out]; push_cast; rfl), by go_num, by omega, HON.out.drew nq⟩, by simp [intOf]; omega⟩
        · obtain rfl : j = 4 := by omega
          clear hj8 hj HC HBL
          have c1 := HON.out.1.c1
          have f1 := HON.out.1.fz 1
          have HO := K.Hid.mk' (HON.out.set1 (s.k + 4) ((s.k : Int) + 4) (by omega) hk)
          go_wp2
          go_ret
          exact ⟨rfl, HO.out⟩
    · have e0 : rFix L s = (0, ⟨s.k, 20, L.length⟩) := by unfold rFix; rw [if_pos hb, if_neg hk]
      rw [e0]
      clear e0
      have HE := K.Hid.mk' (K.qends_no 4 (by decide) w h hb hk)
      clear h
      go_enter Tryz.func86, Tryz.ntmps86
      go_wp2_with fail
      refine HE.out.mono ?_
      rintro e w1 ⟨rfl, ho⟩
      have HO := K.Hid.mk' ho
      clear ho
      go_wp2
      go_ret
      exact ⟨rfl, HO.out⟩
  · have e0 : rFix L s = (0, s) := by unfold rFix; rw [if_neg hb]
    rw [e0]
    have HE := K.Hid.mk' (K.qends_bad 4 (by decide) w h hb)
    clear h e0
    go_enter Tryz.func86, Tryz.ntmps86
    go_wp2_with fail
    refine HE.out.mono ?_
    rintro e w1 ⟨rfl, ho⟩
    have HO := K.Hid.mk' ho
    clear ho
    go_wp2
    go_ret
    exact ⟨rfl, HO.out⟩
end Go.Proofs.YtdnocpngdepbgaaGreatDoor

namespace Go.Proofs.YtdnocpngdepbgaaGreatDoor
open Go.RowKit
set_option linter.unusedVariables false
set_option linter.unusedSimpArgs false

set_option maxHeartbeats 1000000 in
/-- The reference's Compare. -/
theorem rcmp_any (a b : List UInt8) (ha : a.length = 32) (hb : b.length = 32) (w : World) :
    Calls Tryz.prog 127 #[.agg (bs a), .agg (bs b)] w fun e w' => e = .returned (.int .i64 (cmpL a b)) ∧ Below w.heap.size w w' := by
  have be0 : Below w.heap.size w ((w.alloc (.cells (bs a) 36)).alloc (.cells (bs b) 36)) := ((Below.refl _ _).alloc (Nat.le_refl _) _).alloc (by simp) _
  have g0 : ((w.alloc (.cells (bs a) 36)).alloc (.cells (bs b) 36)).heap[w.heap.size]? = some (.cells (bs a) 36 (0, 0)) := heap_alloc2_old _ _ _
  have g1 : ((w.alloc (.cells (bs a) 36)).alloc (.cells (bs b) 36)).heap[w.heap.size + 1]? = some (.cells (bs b) 36 (0, 0)) := heap_alloc2_new _ _ _
  go_enter Tryz.func127, Tryz.ntmps127
  go_wp2
  generalize ((w.alloc (.cells (bs a) 36)).alloc (.cells (bs b) 36)) = W0 at *
  go_loopw [5] (fun i wr => ∃ k : Nat, k ≤ 32 ∧ i = .int .i64 k ∧ Hid (∀ j, j < k → at8 a j = at8 b j) ∧ ∃ m, wr = W0.drewN m) (fun i _ => 32 - (intOf i).toNat)
  case atStart => exact ⟨0, by omega, rfl, (fun j hj => by omega : ∀ j, j < 0 → at8 a j = at8 b j), 0, rfl⟩
  case round =>
    obtain ⟨k, hk, rfl, hsame, m, rfl⟩ := hrel
    by_cases hlt : k < 32
    · have ca := (cell_of_row W0 w.heap.size k _ _ _ g0).trans (bs_get a k (by omega))
      have cb := (cell_of_row W0 (w.heap.size + 1) k _ _ _ g1).trans (bs_get b k (by omega))
      have HL := cmpL_at a b k (by omega) (by omega) hsame.out
      have HL1 : Hid ((at8 a k < at8 b k → cmpL a b = -1) ∧ (at8 b k < at8 a k → cmpL a b = 1)) := HL
      clear HL
      have hlt' : (k : Int) < 32 := by omega
      by_cases h1 : at8 a k < at8 b k
      · go_wp2
        go_quiet (fail)
        go_wp2
        go_ret
        exact ⟨ret_int (HL1.out.1 h1).symm, below_drewN (below_drewN be0 _) _⟩
      · by_cases h2 : at8 b k < at8 a k
        · go_wp2
          go_quiet (fail)
          go_wp2
          go_quiet (fail)
          go_wp2
          go_ret
          exact ⟨ret_int (HL1.out.2 h2).symm, below_drewN (below_drewN (below_drewN be0 _) _) _⟩
        · go_wp2
          go_quiet (fail)
          go_wp2
          go_quiet (fail)
          go_wp2
          refine ⟨⟨k + 1, by omega, by go_num, ?_, _, rfl⟩, by simp [intOf]; omega⟩
          show ∀ j, j < k + 1 → at8 a j = at8 b j
          intro j hj
          by_cases e : j = k
          · subst e; omega
          · exact hsame.out j (by omega)
    · have hk2 : k = 32 := by omega
      subst hk2
      have HE : Hid (cmpL a b = 0) := by
        show cmpL a b = 0
        rw [at8_ext 32 ha hb hsame.out]
        exact cmpL_same b
      go_wp2
      go_ret
      exact ⟨ret_int HE.out.symm, below_drewN be0 _⟩

/-! ### A hash put in its place -/
theorem srise_app : ∀ {A B : List (List UInt8)}, SRise A → SRise B → (∀ a ∈ A, ∀ b ∈ B, cmpL a b < 0) → SRise (A ++ B)
  | [], B, _, hB, _ => hB
  | x :: r, B, hA, hB, h => by
    rw [List.cons_append]
    refine srise_cons (srise_app hA.tail hB (fun a ha b hb => h a (by simp [ha]) b hb)) (fun y hy => ?_)
    rcases List.mem_append.1 hy with hy | hy
    · exact hA.head hy
    · exact h x (by simp) y hy
theorem srise_take {D : List (List UInt8)} (h : SRise D) (k : Nat) : SRise (D.take k) := fun i j x y hx hy hij => by
  rw [List.getElem?_take] at hx hy
  split at hx
  · split at hy
    · exact h i j x y hx hy hij
    · simp at hy
  · simp at hx
theorem srise_drop {D : List (List UInt8)} (h : SRise D) (k : Nat) : SRise (D.drop k) := fun i j x y hx hy hij => by
  rw [List.getElem?_drop] at hx hy
  exact h (k + i) (k + j) x y hx hy (by omega)
/-- Put in at a place. -/
def ins (D : List (List UInt8)) (k : Nat) (x : List UInt8) : List (List UInt8) := D.take k ++ x :: D.drop k
theorem ins_len (D : List (List UInt8)) (k : Nat) (x : List UInt8) : (ins D k x).length = D.length + 1 := by simp [ins]; omega
theorem ins_mem (D : List (List UInt8)) (k : Nat) (x y : List UInt8) : y ∈ ins D k x ↔ y ∈ D ∨ y = x := by
  have h : y ∈ D ↔ y ∈ D.take k ∨ y ∈ D.drop k := by rw [← List.mem_append, List.take_append_drop]
  simp only [ins, List.mem_append, List.mem_cons, h]
  constructor
  · rintro (h | h | h)
    · exact .inl (.inl h)
    · exact .inr h
    · exact .inl (.inr h)
  · rintro ((h | h) | h)
    · exact .inl h
    · exact .inr (.inr h)
    · exact .inr (.inl h)
theorem all32_ins {D : List (List UInt8)} (h : All32 D) (k : Nat) {x : List UInt8} (hx : x.length = 32) : All32 (ins D k x) := fun y hy => by
  rcases (ins_mem D k x y).1 hy with hy | rfl
  · exact h y hy
  · exact hx
theorem srise_ins {D : List (List UInt8)} (h32 : All32 D) (h : SRise D) {k : Nat} {x : List UInt8} (hx : x.length = 32) (hk : k ≤ D.length) (hlo : ∀ j y, j < k → D[j]? = some y → cmpL y x < 0) (hhi : ∀ y, D[k]? = some y → cmpL x y < 0) : SRise (ins D k x) := by
  have hall : ∀ y ∈ D.drop k, cmpL x y < 0 := fun y hy => by
    obtain ⟨j, hj⟩ := List.mem_iff_getElem?.1 hy
    rw [List.getElem?_drop] at hj
    have hlt := (List.getElem?_eq_some_iff.1 hj).1
    have hz : D[k]? = some D[k] := List.getElem?_eq_getElem (by omega)
    by_cases e : j = 0
    · subst e; exact hhi y (by simpa using hj)
    · exact lt_trans hx (h32.get hz) (h32.get hj) (hhi _ hz) (h k (k + j) _ y hz hj (by omega))
  have hal : ∀ y ∈ D.take k, cmpL y x < 0 := fun y hy => by
    obtain ⟨j, hj⟩ := List.mem_iff_getElem?.1 hy
    rw [List.getElem?_take] at hj
    split at hj
    · rename_i hjk; exact hlo j y hjk hj
    · simp at hj
  refine srise_app (srise_take h k) (srise_cons (srise_drop h k) hall) (fun a ha b hb => ?_)
  rcases List.mem_cons.1 hb with rfl | hb
  · exact hal a ha
  · exact lt_trans (h32 a (List.mem_of_mem_take ha)) hx (h32 b (List.mem_of_mem_drop hb)) (hal a ha) (hall b hb)
/-- The first of a list, and the next one. -/
theorem srt_next {L D E : List (List UInt8)} {k : Nat} {x : List UInt8} (hx : L[k]? = some x) (h : Srt (L.take k) D) (h1 : SRise E) (h2 : All32 E) (h3 : ∀ y, y ∈ E ↔ y ∈ D ∨ y = x) : Srt (L.take (k + 1)) E := by
  refine ⟨h1, h2, fun y => ?_⟩
  rw [h3, h.2.2, List.take_add_one, hx]
  simp
/-- What a list is while places are freed. -/
def Shf (D X : List (List UInt8)) (k : Nat) : Prop := X.length = D.length + 1 ∧ All32 X ∧ (∀ j, j < k → X[j]? = D[j]?) ∧ ∀ j, k ≤ j → j < D.length → X[j + 1]? = D[j]?
theorem shf_zero {D : List (List UInt8)} (h : All32 D) : Shf D (D ++ [z32]) D.length := ⟨by simp, all32_app h (fun x hx => by simp at hx; subst hx; exact z32_len), fun j hj => List.getElem?_append_left hj, fun j h1 h2 => by omega⟩
theorem shf_step {D X : List (List UInt8)} {k : Nat} {p : List UInt8} (h : Shf D X k) (hk : 1 ≤ k) (hkD : k ≤ D.length) (hp : D[k - 1]? = some p) (hp32 : p.length = 32) : Shf D (X.set k p) (k - 1) := by
  obtain ⟨h1, h2, h3, h4⟩ := h
  refine ⟨by simp [h1], h2.set k hp32, fun j hj => ?_, fun j hj hjD => ?_⟩
  · rw [List.getElem?_set_ne (by omega)]; exact h3 j (by omega)
  · by_cases e : j = k - 1
    · subst e
      rw [show k - 1 + 1 = k by omega, List.getElem?_set_self (by omega)]
      exact hp.symm
    · rw [List.getElem?_set_ne (by omega)]; exact h4 j (by omega) hjD
theorem shf_end {D X : List (List UInt8)} {k : Nat} {x : List UInt8} (h : Shf D X k) (hk : k ≤ D.length) : X.set k x = ins D k x := by
  obtain ⟨h1, h2, h3, h4⟩ := h
  apply List.ext_getElem?
  intro j
  unfold ins
  rcases Nat.lt_trichotomy j k with h | h | h
  · rw [List.getElem?_set_ne (by omega), List.getElem?_append_left (by simp; omega), List.getElem?_take, if_pos h]
    exact h3 j h
  · subst h
    rw [List.getElem?_set_self (by omega), List.getElem?_append_right (by simp; omega)]
    simp [Nat.min_eq_left hk]
  · rw [List.getElem?_set_ne (by omega), List.getElem?_append_right (by simp; omega)]
    have e : (D.take k).length = k := by simp; omega
    rw [e]
    obtain ⟨m, rfl⟩ : ∃ m, j = k + 1 + m := ⟨j - (k + 1), by omega⟩
    rw [show k + 1 + m - k = m + 1 by omega, List.getElem?_cons_succ, List.getElem?_drop]
    by_cases hm : k + m < D.length
    · have := h4 (k + m) (by omega) hm
      rw [show k + 1 + m = k + m + 1 by omega]
      exact this
    · rw [List.getElem?_eq_none (by omega), List.getElem?_eq_none (by omega)]

/-! ### A block of hashes of the call's own -/
def Box (w : World) (g cap : Nat) : Prop := ∃ cur, w.heap[g]? = some (.cells cur 36 (0, 0)) ∧ cur.size = cap * 32
theorem box_setCells (g cap : Nat) : ∀ (vs : List Value) (o : Nat) (w : World), Box w g cap → Box (w.setCells g o vs) g cap
  | [], _, _, h => h
  | v :: r, o, w, ⟨cur, h1, h2⟩ => box_setCells g cap r (o + 1) _ ⟨_, heap_setCell_same w g o cur _ v h1, by simp [h2]⟩
theorem Box.below {w w' : World} {g cap B : Nat} (h : Box w g cap) (hb : Below B w w') (hg : g < B) : Box w' g cap := by
  obtain ⟨cur, h1, h2⟩ := h
  exact ⟨cur, by rw [hb.block g hg]; exact h1, h2⟩
theorem Box.lt {w : World} {g cap : Nat} (h : Box w g cap) : g < w.heap.size := by
  obtain ⟨cur, h1, h2⟩ := h
  exact (Array.getElem?_eq_some_iff.1 h1).1
theorem Box.there {w : World} {g cap n : Nat} (h : Box w g cap) (hn : n ≤ cap) : w.there g 0 (32 * n) := fun j hj => by
  obtain ⟨cur, h1, h2⟩ := h
  refine ⟨?_, ?_⟩
  · rw [Nat.zero_add, cell_of_row w g j cur _ _ h1, Array.getElem?_eq_getElem (by omega)]; rfl
  · rw [Nat.zero_add]; exact frozen_of_row w g j cur _ h1
theorem OwnH.box {w : World} {base : Nat} {v : Value} {L : List (List UInt8)} (h : OwnH w base v L) (h0 : 0 < L.length) :
    ∃ g cap, v = .slice (some ⟨g, 0, none⟩) L.length cap ∧ L.length ≤ cap ∧ cap ≤ maxLen ∧ base ≤ g ∧ Box w g cap ∧ Hs w g 0 L := by
  have ho := h.open
  obtain ⟨hL, hlen, ⟨rfl, hn⟩ | ⟨g, cap, cur, rfl, hbg, hg, hnc, hcm, hcs', htake⟩⟩ := h
  · omega
  · rcases ho with ⟨h1, _⟩ | ⟨g', cap', h1, _, _, _, h5, _⟩
    · cases h1
    · cases h1
      exact ⟨g, cap, rfl, hnc, hcm, hbg, ⟨cur, hg, hcs'⟩, h5⟩
theorem ownH_mk {w : World} {base g cap : Nat} {L : List (List UInt8)} (hL : All32 L) (hb : Box w g cap) (hn : L.length ≤ cap) (hm : cap ≤ maxLen) (hg : base ≤ g) (hs : Hs w g 0 L) : OwnH w base (.slice (some ⟨g, 0, none⟩) L.length cap) L := by
  obtain ⟨cur, h1, h2⟩ := hb
  refine ⟨hL, flat_len hL, .inr ⟨g, cap, cur, rfl, hg, h1, hn, hm, h2, ?_⟩⟩
  apply List.ext_getElem?
  intro j
  by_cases hj : j < L.length * 32
  · have hx : L[j / 32]? = some L[j / 32] := List.getElem?_eq_getElem (by omega)
    have e1 := flat_get hL (j / 32) (j % 32) _ hx (by omega)
    rw [show j / 32 * 32 + j % 32 = j by omega] at e1
    have hlt : j % 32 < (hcs L[j / 32]).length := by rw [hcs_len, hL.get hx]; omega
    have e2 := hs (j / 32) _ hx (j % 32) _ (List.getElem?_eq_getElem hlt)
    rw [show 0 + 32 * (j / 32) + j % 32 = j by omega, cell_of_row w g j cur _ _ h1] at e2
    rw [e1, List.getElem?_take, if_pos hj, List.getElem?_eq_getElem hlt, ← e2]
    simp
  · rw [List.getElem?_take, if_neg hj, List.getElem?_eq_none (by rw [flat_len hL]; omega)]
end Go.Proofs.YtdnocpngdepbgaaGreatDoor

namespace Go.Proofs.YtdnocpngdepbgaaGreatDoor
open Go.RowKit
set_option linter.unusedVariables false
set_option linter.unusedSimpArgs false

/-- The first place at which a list does not rise. -/
def Brk (D : List (List UInt8)) (i : Nat) : Prop := ∃ p x, 0 < i ∧ D[i - 1]? = some p ∧ D[i]? = some x ∧ ¬ cmpL p x < 0 ∧ ∀ j x y, j + 1 < i → D[j]? = some x → D[j + 1]? = some y → cmpL x y < 0
theorem Brk.uniq {D : List (List UInt8)} {i j : Nat} (h : Brk D i) (k : Brk D j) : i = j := by
  obtain ⟨p, x, h0, h1, h2, h3, h4⟩ := h
  obtain ⟨p', x', k0, k1, k2, k3, k4⟩ := k
  rcases Nat.lt_trichotomy i j with e | e | e
  · exact absurd (k4 (i - 1) p x (by omega) h1 (by rw [show i - 1 + 1 = i by omega]; exact h2)) h3
  · exact e
  · exact absurd (h4 (j - 1) p' x' (by omega) k1 (by rw [show j - 1 + 1 = j by omega]; exact k2)) k3
theorem Brk.not {D : List (List UInt8)} {i : Nat} (h : Brk D i) (k : SRise D) : False := by
  obtain ⟨p, x, h0, h1, h2, h3, h4⟩ := h
  exact h3 (k (i - 1) i p x h1 h2 (by omega))
theorem made_size (n : Nat) : (madeCells (bs z32) (n * 32)).size = n * 32 := by simp [madeCells]
variable {r cap : Nat} {a : Option Addr} {L : List UInt8} {s : K.St}
set_option maxRecDepth 100000 in
set_option maxHeartbeats 2000000 in
theorem rhashes_x (most : Nat) (hm : most ≤ 9223372036854775807) (w : World) (h : K.RD w 108 r a cap L s) (hb : s.bad = 0) (n sz : Nat) (pl : Int) (hNum : K.num L s.k = ⟨n, sz, 0, pl⟩) (hDm : n ≤ most) (hfit : s.k + sz + n * 32 ≤ L.length) :
    Calls Tryz.prog 80 #[.pointer (some ⟨r, 0, none⟩), .int .i64 (most : Int)] w fun e w' => (∃ q, e = .returned (.slice (some ⟨q, 0, none⟩) n n) ∧ w.heap.size ≤ q ∧ q < w'.heap.size ∧ OwnH w' q (.slice (some ⟨q, 0, none⟩) n n) (dch L (s.k + sz) n) ∧ SRise (dch L (s.k + sz) n) ∧ K.On w w' 108 r a cap L ⟨s.k + sz + n * 32, s.bad, s.wh⟩) ∨ (e = .returned (.slice none 0 0) ∧ ∃ i, Brk (dch L (s.k + sz) n) i ∧ K.On w w' 108 r a cap L ⟨s.k, 21, (s.k : Int) + (sz : Int) + (i : Int) * 32⟩) := by
  obtain ⟨D, hDd⟩ : ∃ D, D = dch L (s.k + sz) n := ⟨_, rfl⟩
  have hD : All32 D := by rw [hDd]; exact dch_32 _ _ _ hfit
  have HN : Hid (n = D.length) := by show _ = _; rw [hDd, dch_len]
  have HB : Hid (∀ k x, D[k]? = some x → ((L.drop (s.k + sz + k * 32)).take 32) = x) := fun k x hx => by
    have hk : k < n := by have := (List.getElem?_eq_some_iff.1 hx).1; rw [← HN.out] at this; exact this
    rw [hDd, dch_get _ _ _ _ hk] at hx
    exact Option.some.inj hx
  rw [← hDd]
  clear hDd
  have hfw := h.few
  have HF : Hid (s.k + sz + n * 32 ≤ L.length) := hfit
  have hnb : n ≤ 4398046510976 := by omega
  have HC : Hid (Calls Tryz.prog 107 #[.pointer (some ⟨r, 0, none⟩), .int .i64 (most : Int), .int .i64 32] w fun e w' => e = .returned (.tuple #[.slice (K.from23 a cap (s.k + sz)) (n * 32) (cap - (s.k + sz)), .int .i64 (sz : Int), .bool true]) ∧ K.On w w' 108 r a cap L s) := counted32 most hm w h hb n sz _ hNum hDm hfit
  have HSt : Hid (Calls Tryz.prog 104 #[.pointer (some ⟨r, 0, none⟩)] w fun e w' => e = .returned (.bool false) ∧ w' = w) := (by
    have := K.stopped_any w h
    rw [show decide (s.bad ≠ 0) = false by simp [hb]] at this
    exact this)
  have HR : Hid (K.RD w 108 r a cap L s) := h
  have hsk : s.k ≤ L.length := h.at_le
  clear h hNum
  have hmk := make_hashes n (by omega)
  have tq : Int.tdiv (((n * 32 : Nat) : Int)) 32 = (n : Int) := by rw [Int.tdiv_eq_ediv_of_nonneg (by omega)]; omega
  go_enter Tryz.func80, Tryz.ntmps80
  go_wp2_with fail
  refine HSt.out.mono ?_
  rintro e w0 ⟨rfl, rfl⟩
  go_wp2_with fail
  refine HC.out.mono ?_
  rintro e w1 ⟨rfl, on1⟩
  have HO1 : Hid (K.On w0 w1 108 r a cap L s) := on1
  clear on1 HC HSt
  have HLN : Hid (n * 32 = n * 32) := rfl
  obtain ⟨n32, hn32⟩ : ∃ n32, n32 = n * 32 := ⟨_, rfl⟩
  rw [← hn32] at hfit tq ⊢
  have HN32 : Hid (n32 = n * 32) := hn32
  clear hn32 HLN
  have HS0 : Hid (Hs (w1.alloc (.cells (madeCells (bs z32) (n * 32)) 36)) w1.heap.size 0 (part D n 0)) := (by rw [part_zero]; exact hs_made w1 n 36 : Hs (w1.alloc (.cells (madeCells (bs z32) (n * 32)) 36)) w1.heap.size 0 (part D n 0))
  have HT0 : Hid ((w1.alloc (.cells (madeCells (bs z32) (n * 32)) 36)).there w1.heap.size 0 (32 * n)) := there_made w1 n 36
  have HB0 : Hid (Box (w1.alloc (.cells (madeCells (bs z32) (n * 32)) 36)) w1.heap.size n) := ⟨_, heap_alloc_new _ _, made_size n⟩
  have HA0 : Hid (K.On w0 (w1.alloc (.cells (madeCells (bs z32) (n * 32)) 36)) 108 r a cap L s) := on_below HR.out HO1.out ((Below.refl _ _).alloc (Nat.le_refl _) _) HO1.out.2.size
  have hq0 : w0.heap.size ≤ w1.heap.size := HO1.out.2.size
  go_wp2
  go_loopw [29] (fun i wr => ∃ k : Nat, k ≤ n ∧ i = .int .i64 k ∧ Hid (Hs wr w1.heap.size 0 (part D n k)) ∧ Hid (wr.there w1.heap.size 0 (32 * n)) ∧ Hid (Box wr w1.heap.size n) ∧ Hid (K.On w0 wr 108 r a cap L s) ∧ w1.heap.size < wr.heap.size ∧ Hid (∀ j x y, j + 1 < k → D[j]? = some x → D[j + 1]? = some y → cmpL x y < 0)) (fun i _ => n - (intOf i).toNat)
  case atStart => exact ⟨0, by omega, rfl, HS0, HT0, HB0, HA0, by simp, fun j x y h => by omega⟩
  case round =>
    obtain ⟨k, hk, rfl, HSr, HTr, HBr, HOr, hqr, HAdj⟩ := hrel
    by_cases hkn : k < n
    · have h32 := HN32.out
      have hkD : k < D.length := by rw [← HN.out]; exact hkn
      obtain ⟨x, hx⟩ : ∃ x, D[k]? = some x := ⟨_, List.getElem?_eq_getElem hkD⟩
      have hx32 := hD.get hx
      have HCut : Hid (((L.drop (s.k + sz + k * 32)).take 32) = x) := HB.out k x hx
      obtain ⟨b, off, rfl, hcell⟩ : ∃ b off, a = some ⟨b, off, none⟩ ∧ ∀ j, j < L.length → wr.cell? ⟨b, off + j, none⟩ = some (.int .u8 (K.at8 L j)) := by
        rcases HOr.out.1.byt with e | h
        · have := HF.out; rw [e] at this; simp at this; omega
        · exact h
      have hroom := HOr.out.1.room
      have hfit2 := HF.out
      have e1 : K.from23 (K.from23 (some ⟨b, off, none⟩) cap (s.k + sz)) (cap - (s.k + sz)) (k * 32) = some ⟨b, off + (s.k + sz) + k * 32, none⟩ := by
        unfold K.from23
        rw [if_neg (by omega), if_neg (by omega)]
        simp [Addr.add_mid]
      have sl1 := fun wx => K.sl_from (K.from23 (some ⟨b, off, none⟩) cap (s.k + sz)) n32 (cap - (s.k + sz)) (k * 32) ((k : Int) * 32) (by omega) (by omega) wx
      have sl2 := fun wx => K.sl_from' (K.from23 (some ⟨b, off, none⟩) cap (s.k + sz)) n32 (cap - (s.k + sz)) (k * 32) ((k : Int) * 32) (by omega) (by omega) wx
      rw [e1] at sl1 sl2
      have HH : Hid (Calls Tryz.prog 122 #[.slice (some ⟨b, off + (s.k + sz) + k * 32, none⟩) (n32 - k * 32) (cap - (s.k + sz) - k * 32)] wr fun e w' => e = .returned (.agg (bs x)) ∧ Below wr.heap.size wr w') := (by
        have h1 : ((L.drop (s.k + sz + k * 32)).take (n32 - k * 32)).length = n32 - k * 32 := by rw [List.length_take, List.length_drop]; omega
        have hbl : b < wr.heap.size := block_lt_of_cell (hcell 0 (by omega))
        have := hashOf_any b (off + (s.k + sz) + k * 32) (n32 - k * 32) (cap - (s.k + sz) - k * 32) ((L.drop (s.k + sz + k * 32)).take (n32 - k * 32)) wr h1 (by omega) (fun j hj => by
          rw [h1] at hj
          rw [show off + (s.k + sz) + k * 32 + j = off + (s.k + sz + k * 32 + j) by omega, hcell _ (by omega)]
          unfold K.at8
          simp [List.getElem?_take, hj]) hbl
        rw [List.take_take, show min 32 (n32 - k * 32) = 32 by omega, HCut.out] at this
        exact this)
      have ix1 := fun wx => indexH w1.heap.size 0 n n k wx hkn
      simp only [Nat.zero_add] at ix1
      clear HCut hcell e1 hroom hfit2
      generalize off + (s.k + sz) + k * 32 = off4 at *
      generalize n32 - k * 32 = n4 at *
      generalize cap - (s.k + sz) - k * 32 = cap4 at *
      generalize hq : w1.heap.size = q at *
      have hzr : Hid (w0.heap.size ≤ q) := hq0
      clear h32 hq
      go_wp2_with fail
      refine HH.out.mono ?_
      rintro e w2 ⟨rfl, bl2⟩
      have HT2 : Hid (w2.there q 0 (32 * n)) := there_below HTr.out bl2 hqr
      have HTH : Hid (w2.there q (32 * k) 32) := (by have := there_part (m := 32) (i := 32 * k) HT2.out (by omega); rwa [Nat.zero_add] at this : w2.there q (32 * k) 32)
      have hPL : D.length = n := HN.out.symm
      have HX : Hid (Hs (w2.setCells q (32 * k) (hcs x)) q 0 (part D n (k + 1))) := (by
        have := Hs.set (HSr.out.below bl2 hqr) (all32_part hD _ _) k x hx32 (by rw [part_len _ _ _ (by omega) hPL]; omega) (there_part HT2.out (by omega))
        rw [Nat.zero_add] at this
        rwa [part_set _ _ _ (by omega) hPL x hx] at this : Hs (w2.setCells q (32 * k) (hcs x)) q 0 (part D n (k + 1)))
      have HT3 : Hid ((w2.setCells q (32 * k) (hcs x)).there q 0 (32 * n)) := World.there_setCells HT2.out _ _ _
      have HB3 : Hid (Box (w2.setCells q (32 * k) (hcs x)) q n) := box_setCells _ _ _ _ _ (HBr.out.below bl2 hqr)
      have HO3 : Hid (K.On w0 (w2.setCells q (32 * k) (hcs x)) 108 r (some ⟨b, off, none⟩) cap L s) := on_below HR.out (on_below HR.out HOr.out bl2 HOr.out.2.size) (below_setCells (Below.refl _ _) (Nat.le_refl q) _ _) hzr.out
      have hq3 : q < (w2.setCells q (32 * k) (hcs x)).heap.size := by rw [size_setCells]; have := bl2.size; omega
      clear hPL bl2 HT2 HSr HTr HBr HOr hqr HH sl1 sl2
      go_wp2_with (first
        | (refine wpList_store_mid rfl 36 _ _ rfl q (32 * k) (bs x) rfl rfl (by rw [bs_size, hx32]; exact HTH.out) (by rw [bs_size, hx32]; exact hsH) (bs_one _) ?_)
        | fail)
      change Code.wp _ _ _ _ (w2.setCells q (32 * k) (hcs x))
      simp only [Act.put]
      generalize w2.setCells q (32 * k) (hcs x) = w3 at *
      clear HTH
      by_cases hk0 : k = 0
      · have gk : decide (0 < k) = false := by simp; omega
        have HK1 : Hid (∀ j x y, j + 1 < k + 1 → D[j]? = some x → D[j + 1]? = some y → cmpL x y < 0) := fun j x y hj => by omega
        clear hk0
        have hne : Nonempty (ExtT w3) := ExtT.some w3
        refine wp_region_ext (by kernel_rfl) (by kernel_rfl) ?_
        repeat (go_big_quiet_step (fail))
        refine wpQuiet_nil ?_
        rintro w4 ⟨⟨_, bl4⟩, rfl⟩
        have A1 : Hid (Hs w4 q 0 (part D n (k + 1))) := HX.out.below bl4 hq3
        have A2 : Hid (w4.there q 0 (32 * n)) := there_below HT3.out bl4 hq3
        have A5 : Hid (Box w4 q n) := HB3.out.below bl4 hq3
        have A3 : Hid (K.On w0 w4 108 r (some ⟨b, off, none⟩) cap L s) := on_below HR.out HO3.out bl4 HO3.out.2.size
        have A4 : q < w4.heap.size := by have := bl4.size; omega
        clear bl4 hne HX HT3 HB3 HO3 hq3 gk
        go_wp2
        exact ⟨⟨k + 1, by omega, by go_num, A1, A2, A5, A3, A4, fun j x y hj => HK1.out j x y hj⟩, by simp [intOf]; omega⟩
      · obtain ⟨p, hp⟩ : ∃ p, D[k - 1]? = some p := ⟨_, List.getElem?_eq_getElem (by omega)⟩
        have hp32 := hD.get hp
        have HCm : Hid (∀ wx, Calls Tryz.prog 116 #[.agg (bs p), .agg (bs x)] wx fun e w' => e = .returned (.int .i64 (cmpL p x)) ∧ Below wx.heap.size wx w') := fun wx => cmp_any p x hp32 hx32 wx
        have hpt : ∀ i y, i < k + 1 → D[i]? = some y → (part D n (k + 1))[i]? = some y := fun i y hi hy => by
          unfold part
          rw [List.getElem?_append_left (by rw [List.length_take]; have := (List.getElem?_eq_some_iff.1 hy).1; omega), List.getElem?_take, if_pos hi]
          exact hy
        have S1 : Hid (w3.rangeAt q (32 * (k - 1)) (hcs p)) := (by have := HX.out (k - 1) p (hpt _ _ (by omega) hp); rwa [Nat.zero_add] at this : w3.rangeAt q (32 * (k - 1)) (hcs p))
        have S2 : Hid (w3.rangeAt q (32 * k) (hcs x)) := (by have := HX.out k x (hpt _ _ (by omega) hx); rwa [Nat.zero_add] at this : w3.rangeAt q (32 * k) (hcs x))
        have ix2 : ∀ wx, (Instr.indexAt 37 (.slice (some ⟨q, 0, none⟩) n n) (.int .i64 ((k : Int) - 1))).run Tryz.prog wx = .ok (.pointer (some ⟨q, 32 * (k - 1), none⟩)) wx := fun wx => (by
          have := indexH q 0 n n (k - 1) wx (by omega)
          rwa [Nat.zero_add, show ((k - 1 : Nat) : Int) = (k : Int) - 1 by omega] at this)
        have wk : IntKind.i64.wrap ((k : Int) - 1) = (k : Int) - 1 := by simp only [IntKind.wrap, IntKind.bits, IntKind.signed]; simp; omega
        have wk2 : wrap64 ((k : Int) - 1) = (k : Int) - 1 := (by unfold wrap64; omega)
        have gk : 0 < k := by omega
        by_cases hcl : cmpL p x < 0
        · have HK1 : Hid (∀ j x y, j + 1 < k + 1 → D[j]? = some x → D[j + 1]? = some y → cmpL x y < 0) := fun j u v hj hu hv => by
            by_cases ej : j + 1 = k
            · rw [show j = k - 1 by omega, hp] at hu
              rw [ej, hx] at hv
              cases hu
              cases hv
              exact hcl
            · exact HAdj.out j u v (by omega) hu hv
          generalize cmpL p x = c at *
          have gc : ¬ (0 : Int) ≤ c := by omega
          clear hpt hx hp hcl hk0
          have hne : Nonempty (ExtT w3) := ExtT.some w3
          refine wp_region_ext (by kernel_rfl) (by kernel_rfl) ?_
          repeat (first
            | (go_big_quiet_want; refine quiet_load_mid 36 _ rfl q (32 * (k - 1)) rfl (bs p) _ (by rintro _ ⟨e, rfl⟩; exact e.range S1.out (hcs_pos hp32)) Tryz.underlying36 rfl (sizeH hp32) ?_; simp only [Act.put, List.setIfInBounds_toArray, List.set_cons_zero, List.set_cons_succ]; go_big_quiet_on)
            | (go_big_quiet_want; refine quiet_load_mid 36 _ rfl q (32 * k) rfl (bs x) _ (by rintro _ ⟨e, rfl⟩; exact e.range S2.out (hcs_pos hx32)) Tryz.underlying36 rfl (sizeH hx32) ?_; simp only [Act.put, List.setIfInBounds_toArray, List.set_cons_zero, List.set_cons_succ]; go_big_quiet_on)
            | go_big_quiet_step (first | (go_at_call 116; exact ext_of (HCm.out _)) | fail))
          refine wpQuiet_nil ?_
          rintro w4 ⟨⟨_, bl4⟩, rfl⟩
          have A1 : Hid (Hs w4 q 0 (part D n (k + 1))) := HX.out.below bl4 hq3
          have A2 : Hid (w4.there q 0 (32 * n)) := there_below HT3.out bl4 hq3
          have A5 : Hid (Box w4 q n) := HB3.out.below bl4 hq3
          have A3 : Hid (K.On w0 w4 108 r (some ⟨b, off, none⟩) cap L s) := on_below HR.out HO3.out bl4 HO3.out.2.size
          have A4 : q < w4.heap.size := by have := bl4.size; omega
          clear bl4 hne HX HT3 HB3 HO3 hq3 wk wk2 S1 S2 HCm ix2
          go_wp2
          exact ⟨⟨k + 1, by omega, by go_num, A1, A2, A5, A3, A4, fun j x y hj => HK1.out j x y hj⟩, by simp [intOf]; omega⟩
        · have BRK : Hid (Brk D k) := ⟨p, x, by omega, hp, hx, hcl, HAdj.out⟩
          generalize cmpL p x = c at *
          have gc : (0 : Int) ≤ c := by omega
          clear hpt hx hp hcl hk0
          have hne : Nonempty (ExtT w3) := ExtT.some w3
          refine wp_region_ext (by kernel_rfl) (by kernel_rfl) ?_
          repeat (first
            | (go_big_quiet_want; refine quiet_load_mid 36 _ rfl q (32 * (k - 1)) rfl (bs p) _ (by rintro _ ⟨e, rfl⟩; exact e.range S1.out (hcs_pos hp32)) Tryz.underlying36 rfl (sizeH hp32) ?_; simp only [Act.put, List.setIfInBounds_toArray, List.set_cons_zero, List.set_cons_succ]; go_big_quiet_on)
            | (go_big_quiet_want; refine quiet_load_mid 36 _ rfl q (32 * k) rfl (bs x) _ (by rintro _ ⟨e, rfl⟩; exact e.range S2.out (hcs_pos hx32)) Tryz.underlying36 rfl (sizeH hx32) ?_; simp only [Act.put, List.setIfInBounds_toArray, List.set_cons_zero, List.set_cons_succ]; go_big_quiet_on)
            | go_big_quiet_step (first | (go_at_call 116; exact ext_of (HCm.out _)) | fail))
          refine wpQuiet_nil ?_
          rintro w4 ⟨⟨_, bl4⟩, rfl⟩
          have A3 : Hid (K.On w0 w4 108 r (some ⟨b, off, none⟩) cap L s) := on_below HR.out HO3.out bl4 HO3.out.2.size
          have c1 := A3.out.1.c1
          have HKp := K.Hid.mk' (K.keep_on (a := some ⟨b, off, none⟩) (cap := cap) (L := L) (T := 108) (r := r) w0 hb 21 ((s.k : Int) + (sz : Int) + (k : Int) * 32) (by decide))
          have hfit3 := HF.out
          have hw1 : IntKind.i64.wrap ((s.k : Int) + (sz : Int)) = (s.k : Int) + (sz : Int) := by rw [IntKind.wrap_i64]; omega
          have hw2 : IntKind.i64.wrap ((k : Int) * 32) = (k : Int) * 32 := by rw [IntKind.wrap_i64]; omega
          have hw3 : IntKind.i64.wrap ((s.k : Int) + (sz : Int) + (k : Int) * 32) = (s.k : Int) + (sz : Int) + (k : Int) * 32 := by rw [IntKind.wrap_i64]; omega
          clear bl4 hne HX HT3 HB3 HO3 hq3 wk wk2 S1 S2 HCm ix2 hfit3
          go_wp2
          go_region_held3 (fun w' => w'.cell? ⟨r, 1, none⟩ = some (.int .i64 (s.k : Int))) (first | assumption | go_keep) (first
            | (go_at_call 106; refine (HKp.out _ ?_).mono ?_; (first | exact A3.out | exact A3.out.drew _ | exact (A3.out.drew _).drew 1); rintro e w5 ⟨rfl, ho⟩; have s1 := ho.1.c1; have HO2 := K.Hid.mk' ho; clear ho)
            | fail)
          go_wp2
          go_ret
          exact .inr ⟨rfl, k, BRK.out, HO2.out⟩
    · obtain rfl : k = n := by omega
      have c1 := HOr.out.1.c1
      have fz := HOr.out.1.fz 1
      have HE : Hid (Hs wr w1.heap.size 0 D) := (by have := HSr.out; rwa [part_all D k HN.out.symm] at this : Hs wr w1.heap.size 0 D)
      have HSR : Hid (SRise D) := srise_adj hD (fun j x y hx hy => HAdj.out j x y (by have := (List.getElem?_eq_some_iff.1 hy).1; rw [← HN.out] at this; omega) hx hy)
      have h32 := HN32.out
      have hfit3 := HF.out
      have HO9 : Hid (K.On w0 (wr.setCell ⟨r, 1, none⟩ (.int .i64 ((s.k : Int) + ((sz : Int) + (n32 : Int))))) 108 r a cap L ⟨s.k + sz + k * 32, s.bad, s.wh⟩) := HOr.out.set1 (s.k + sz + k * 32) _ (by omega) (by omega)
      have hrq : r ≠ w1.heap.size := by have := HR.out.lt; omega
      have HE9 : Hid (Hs (wr.setCell ⟨r, 1, none⟩ (.int .i64 ((s.k : Int) + ((sz : Int) + (n32 : Int))))) w1.heap.size 0 D) := fun i x e j v hv => (World.cell?_setCell_far wr ⟨r, 1, none⟩ _ _ hrq).trans (HE.out i x e j v hv)
      have HB9 : Hid (Box (wr.setCell ⟨r, 1, none⟩ (.int .i64 ((s.k : Int) + ((sz : Int) + (n32 : Int))))) w1.heap.size k) := by
        obtain ⟨cur, e1, e2⟩ := HBr.out
        exact ⟨cur, by rw [Below.heap_setCell _ _ _ _ (Ne.symm hrq)]; exact e1, e2⟩
      have hz9 : w1.heap.size < (wr.setCell ⟨r, 1, none⟩ (.int .i64 ((s.k : Int) + ((sz : Int) + (n32 : Int))))).heap.size := by rw [World.size_setCell]; exact hqr
      have hn32b : n32 ≤ 140737488351232 := by omega
      have hszb : sz ≤ 140737488351232 := by omega
      have HO99 : Hid (OwnH (wr.setCell ⟨r, 1, none⟩ (.int .i64 ((s.k : Int) + ((sz : Int) + (n32 : Int))))) w1.heap.size (.slice (some ⟨w1.heap.size, 0, none⟩) k k) D) := by
        show OwnH _ _ _ _
        have := ownH_mk (base := w1.heap.size) hD HB9.out (by rw [← HN.out]; exact Nat.le_refl _) (by unfold maxLen; omega) (Nat.le_refl _) HE9.out
        rw [← HN.out] at this
        exact this
      clear HE HE9 HB9 HTr HSr HBr HOr h32 hfit3
      go_wp2
      go_ret
      exact .inl ⟨_, rfl, hq0, hz9, HO99.out, HSR.out, HO9.out⟩
end Go.Proofs.YtdnocpngdepbgaaGreatDoor

namespace Go.Proofs.YtdnocpngdepbgaaGreatDoor
open Go.RowKit
set_option linter.unusedVariables false
set_option linter.unusedSimpArgs false

/-- The first bytes of a hash, and zeros. -/
def yH (x : List UInt8) (j : Nat) : List UInt8 := x.take j ++ z32.drop j
theorem yH_len {x : List UInt8} (hx : x.length = 32) {j : Nat} (hj : j ≤ 32) : (yH x j).length = 32 := by
  unfold yH
  rw [List.length_append, List.length_take, List.length_drop, hx, z32_len]
  omega
theorem yH_zero (x : List UInt8) : yH x 0 = z32 := by simp [yH]
theorem yH_all {x : List UInt8} (hx : x.length = 32) : yH x 32 = x := by
  unfold yH
  rw [List.take_of_length_le (by omega), List.drop_eq_nil_of_le (by rw [z32_len]; omega), List.append_nil]
theorem yH_set {x : List UInt8} (hx : x.length = 32) {j : Nat} (hj : j < 32) (v : UInt8) (hv : x[j]? = some v) : (yH x j).set j v = yH x (j + 1) := by
  unfold yH
  have h1 : (x.take j).length = j := by rw [List.length_take]; omega
  rw [List.set_append_right _ _ (by omega), h1, Nat.sub_self, List.drop_eq_getElem_cons (by rw [z32_len]; exact hj), List.set_cons_zero, List.take_add_one, hv]
  simp
theorem resQh (tmps : Array Value) (w : World) (g : Nat) (t : TypeId) (l : List UInt8) (hl : l.length = 32) (fr : Nat × Nat) (hp : tmps.getD 4 undef = .pointer (some ⟨g, 0, none⟩)) (hg : w.heap[g]? = some (.cells (bs l) t fr)) :
    (results Tryz.f126 tmps).run Tryz.prog w = .ok (.agg (bs l)) w :=
  results_cell_row Tryz.results126 tmps w g t (bs l) fr _ hp hg Tryz.underlying36 rfl (by rw [bs_size, hl]; exact hsH)
theorem resQH (tmps : Array Value) (w : World) (g : Nat) (t : TypeId) (l : List UInt8) (hl : l.length = 32) (fr : Nat × Nat) (hp : tmps.getD 2 undef = .pointer (some ⟨g, 0, none⟩)) (hg : w.heap[g]? = some (.cells (bs l) t fr)) :
    (results Tryz.f92 tmps).run Tryz.prog w = .ok (.agg (bs l)) w :=
  results_cell_row Tryz.results92 tmps w g t (bs l) fr _ hp hg Tryz.underlying36 rfl (by rw [bs_size, hl]; exact hsH)
variable {T : TypeId} {r cap : Nat} {a : Option Addr} {L : List UInt8} {s : K.St}
set_option maxRecDepth 100000 in
set_option maxHeartbeats 2000000 in
/-- The hash at a place. -/
theorem qhash_at (k : Nat) (w : World) (h : K.RD w T r a cap L s) (hk : k + 32 ≤ L.length) :
    Calls Tryz.prog 126 #[.pointer (some ⟨r, 0, none⟩), .int .i64 (k : Int)] w fun e w' => e = .returned (.agg (bs ((L.drop k).take 32))) ∧ Below w.heap.size w w' := by
  have hzs : (bs z32).size = 32 := by rw [bs_size]; rfl
  obtain ⟨x, hx⟩ : ∃ x, x = (L.drop k).take 32 := ⟨_, rfl⟩
  have hx32 : x.length = 32 := by rw [hx]; simp; omega
  rw [← hx]
  have bel : Below w.heap.size w ((w.alloc (.cells (bs z32) 36)).alloc (.cells (bs z32) 36)) := ((Below.refl _ _).alloc (Nat.le_refl _) _).alloc (by simp) _
  have g1 : ((w.alloc (.cells (bs z32) 36)).alloc (.cells (bs z32) 36)).heap[w.heap.size + 1]? = some (.cells (bs z32) 36 (0, 0)) := heap_alloc2_new _ _ _
  have g0 : ((w.alloc (.cells (bs z32) 36)).alloc (.cells (bs z32) 36)).heap[w.heap.size]? = some (.cells (bs z32) 36 (0, 0)) := heap_alloc2_old _ _ _
  have HB : Hid (∀ j, j < 32 → ∃ v, x[j]? = some v ∧ L[k + j]? = some v) := fun j hj => by
    have h1 : L[k + j]? = some L[k + j] := List.getElem?_eq_getElem (by omega)
    refine ⟨L[k + j], ?_, h1⟩
    rw [hx, List.getElem?_take, if_pos hj, List.getElem?_drop, h1]
  have hf := h.few
  have HR := K.Hid.mk' (fun wx (b : Below w.heap.size w wx) => RD_b h b)
  have G1 : Hid (((w.alloc (.cells (bs z32) 36)).alloc (.cells (bs z32) 36)).heap[w.heap.size + 1]? = some (.cells (bs (yH x 0)) 36 (0, 0))) := by show _ = _; rw [yH_zero]; exact g1
  have G0 := K.Hid.mk' g0
  have BL := K.Hid.mk' bel
  clear hx h g0 g1 bel
  go_enter Tryz.func126, Tryz.ntmps126
  go_upto_region 2 with (first | (refine wpList_alloc_row rfl 36 rfl (bs z32) (hzH _) ?_) | fail)
  simp only [Act.put, List.setIfInBounds_toArray, List.set_cons_zero, List.set_cons_succ]
  rw [show (w.alloc (.cells (bs z32) 36)).heap.size = w.heap.size + 1 by simp]
  generalize ((w.alloc (.cells (bs z32) 36)).alloc (.cells (bs z32) 36)) = W at *
  go_wp2
  go_loopw [6] (fun i wr => ∃ j : Nat, j ≤ 32 ∧ i = .int .i64 (j : Int) ∧ Hid (Below w.heap.size w wr) ∧ Hid (wr.heap[w.heap.size]? = some (.cells (bs z32) 36 (0, 0))) ∧ Hid (wr.heap[w.heap.size + 1]? = some (.cells (bs (yH x j)) 36 (0, 0)))) (fun i _ => 32 - (intOf i).toNat)
  case atStart => exact ⟨0, by omega, rfl, BL, G0, G1⟩
  case round =>
    clear BL G0 G1
    obtain ⟨j, hj, rfl, BW, G0, G1⟩ := hrel
    by_cases hj32 : j < 32
    · have hj' : (j : Int) < 32 := by omega
      have rd := HR.out wr BW.out
      have c0 := rd.c0
      obtain ⟨b, off, ea, hc⟩ := K.rd_cell rd
      obtain ⟨rfl, hbr⟩ := ea (by omega)
      obtain ⟨v, hv, hL⟩ := HB.out j hj32
      have cc : wr.cell? ⟨b, off + (k + j), none⟩ = some (.int .u8 (v.toNat : Int)) := by
        rw [hc (k + j) (by omega)]
        simp [K.at8, hL]
      have htn : ((k : Int) + (j : Int)).toNat = k + j := by omega
      have hlt : ((k : Int) + (j : Int)) < (L.length : Int) := by omega
      have hyl := yH_len hx32 (j := j) (by omega)
      have cg := (cell_of_row wr (w.heap.size + 1) j _ _ _ G1.out).trans (bs_get (yH x j) j (by omega))
      have fg := frozen_of_row wr (w.heap.size + 1) j _ _ G1.out
      have N1 : Hid ((wr.setCell ⟨w.heap.size + 1, j, none⟩ (.int .u8 (v.toNat : Int))).heap[w.heap.size + 1]? = some (.cells (bs (yH x (j + 1))) 36 (0, 0))) := by show _ = _; rw [heap_setCell_same wr _ j _ 36 _ G1.out, bs_set, yH_set hx32 hj32 v hv]
      have N0 : Hid ((wr.setCell ⟨w.heap.size + 1, j, none⟩ (.int .u8 (v.toNat : Int))).heap[w.heap.size]? = some (.cells (bs z32) 36 (0, 0))) := (Below.heap_setCell _ _ _ _ (by show w.heap.size ≠ w.heap.size + 1; omega)).trans G0.out
      have NB : Hid (Below w.heap.size w (wr.setCell ⟨w.heap.size + 1, j, none⟩ (.int .u8 (v.toNat : Int)))) := BW.out.setCell (p := ⟨w.heap.size + 1, j, none⟩) (by show w.heap.size ≤ w.heap.size + 1; omega) _
      clear rd hc ea hyl hv hL G0 G1 BW
      go_wp2
      exact ⟨⟨j + 1, by omega, by go_num, NB, N0, N1⟩, by simp [intOf]; omega⟩
    · obtain rfl : j = 32 := by omega
      rw [yH_all hx32] at G1
      clear hj32 hj HB HR
      go_wp2_with (first
        | (refine wpList_load_arr rfl 36 (.tmp 5) rfl (w.heap.size + 1) rfl 36 (bs x) (0, 0) _ G1.out Tryz.underlying36 rfl (by rw [bs_size, hx32]; exact hsH) ?_)
        | (refine wpList_store_row rfl 36 (.tmp 4) (.tmp 22) rfl w.heap.size (bs x) rfl rfl 36 (bs z32) G0.out (by rw [bs_size, hx32]; exact hsH) (by rw [hzs, bs_size, hx32]) (bs_one _) ?_)
        | fail)
      exact bodyPost_ret (resQh _ _ w.heap.size 36 x hx32 (0, 0) rfl (setRow_heap _ _ _ _ _ _ G0.out)) rfl ⟨rfl, BW.out.trans (below_setRow _ _ _ _ (Nat.le_refl _))⟩
set_option maxRecDepth 100000 in
set_option maxHeartbeats 2000000 in
theorem qhash_any (w : World) (h : K.RD w T r a cap L s) :
    Calls Tryz.prog 92 #[.pointer (some ⟨r, 0, none⟩)] w fun e w' => e = .returned (.agg (bs (rHash L s).1)) ∧ K.On w w' T r a cap L (rHash L s).2 := by
  have hzs : (bs z32).size = 32 := by rw [bs_size]; rfl
  have be0 : Below w.heap.size w (w.alloc (.cells (bs z32) 36)) := (Below.refl _ _).alloc (Nat.le_refl _) _
  have h0 : K.RD (w.alloc (.cells (bs z32) 36)) T r a cap L s := RD_b h be0
  have g0 : (w.alloc (.cells (bs z32) 36)).heap[w.heap.size]? = some (.cells (bs z32) 36 (0, 0)) := heap_alloc_new _ _
  have hrl := h.lt
  have ON0 : K.On w (w.alloc (.cells (bs z32) 36)) T r a cap L s := ⟨h0, K.Fr.of_below be0⟩
  have hWz : w.heap.size < (w.alloc (.cells (bs z32) 36)).heap.size := by simp
  generalize hW : w.alloc (.cells (bs z32) 36) = W at *
  have KEEP : Hid (∀ s' w', K.On W w' T r a cap L s' → K.On w w' T r a cap L s' ∧ w'.heap[w.heap.size]? = some (.cells (bs z32) 36 (0, 0))) := fun s' w' on => ⟨⟨on.1, ON0.2.trans on.2⟩, by rw [on.2.block w.heap.size hWz (by omega)]; exact g0⟩
  have h9 : Hid (K.RD w T r a cap L s) := h
  by_cases hb : s.bad = 0
  · by_cases hk : s.k + 32 ≤ L.length
    · have hx32 : ((L.drop s.k).take 32).length = 32 := by simp; omega
      have e0 : rHash L s = ((L.drop s.k).take 32, ⟨s.k + 32, s.bad, s.wh⟩) := by unfold rHash; rw [if_pos hb, if_pos hk]
      rw [e0]
      have HE := K.Hid.mk' (K.qends_ok 32 (by decide) W h0 hb hk)
      have HQ : Hid (∀ wx s', K.RD wx T r a cap L s' → Calls Tryz.prog 126 #[.pointer (some ⟨r, 0, none⟩), .int .i64 (s.k : Int)] wx fun e w' => e = .returned (.agg (bs ((L.drop s.k).take 32))) ∧ Below wx.heap.size wx w') := fun wx s' hx => qhash_at s.k wx hx hk
      have hf := h.few
      generalize (L.drop s.k).take 32 = x at *
      clear h h0 e0 g0 ON0 be0
      go_enter Tryz.func92, Tryz.ntmps92
      go_wp2_with (first | (refine wpList_alloc_row rfl 36 rfl (bs z32) (hzH _) ?_; rw [hW]) | fail)
      refine HE.out.mono ?_
      rintro e w1 ⟨rfl, on⟩
      obtain ⟨on1, g1⟩ := KEEP.out _ _ on
      have c1 := on1.1.c1
      have f1 := on1.1.fz 1
      have on2 := on1.set1 (s.k + 32) ((s.k : Int) + 32) (by omega) hk
      have g2 : (w1.setCell ⟨r, 1, none⟩ (.int .i64 ((s.k : Int) + 32))).heap[w.heap.size]? = some (.cells (bs z32) 36 (0, 0)) := (Below.heap_setCell _ _ _ _ (by show w.heap.size ≠ r; omega)).trans g1
      have e32 : (s.k : Int) + 32 - 32 = (s.k : Int) := by omega
      have z1 : Hid (w.heap.size < w1.heap.size) := (Array.getElem?_eq_some_iff.1 g1).1
      have HON2 := K.Hid.mk' on2
      have G2 := K.Hid.mk' g2
      clear on on1 on2 g1 g2 HE KEEP
      go_upto_region 4 with fail
      have d1 := HON2.out.1.c1
      have HQ2 := K.Hid.mk' (HQ.out _ _ HON2.out.1)
      have z2 : Hid (w.heap.size < (w1.setCell ⟨r, 1, none⟩ (.int .i64 ((s.k : Int) + 32))).heap.size) := by show _ < _; rw [World.size_setCell]; exact z1.out
      generalize (w1.setCell ⟨r, 1, none⟩ (.int .i64 ((s.k : Int) + 32))) = w2 at *
      clear c1 f1
      go_wp2_with fail
      refine HQ2.out.mono ?_
      rintro e w3 ⟨rfl, bl3⟩
      have on3 := on_below h9.out HON2.out bl3 (by have := z2.out; omega)
      have g3 : w3.heap[w.heap.size]? = some (.cells (bs z32) 36 (0, 0)) := (bl3.block w.heap.size z2.out).trans G2.out
      have HO4 : Hid (K.On w (w3.setRow w.heap.size (bs x)) T r a cap L ⟨s.k + 32, s.bad, s.wh⟩) := on_below h9.out on3 (below_setRow _ _ _ _ (Nat.le_refl _)) (Nat.le_refl _)
      clear on3 bl3 HQ HQ2
      go_wp2_with (first
        | (refine wpList_store_row rfl 36 _ _ rfl w.heap.size (bs x) rfl rfl 36 (bs z32) g3 (by rw [bs_size, hx32]; exact hsH) (by rw [hzs, bs_size, hx32]) (bs_one _) ?_)
        | fail)
      exact bodyPost_ret (resQH _ _ w.heap.size 36 x hx32 (0, 0) rfl (setRow_heap _ _ _ _ _ _ g3)) rfl ⟨rfl, HO4.out⟩
    · have e0 : rHash L s = (z32, ⟨s.k, 20, L.length⟩) := by unfold rHash; rw [if_pos hb, if_neg hk]
      rw [e0]
      have HE := K.Hid.mk' (K.qends_no 32 (by decide) W h0 hb hk)
      clear h h0 e0 g0 ON0 be0
      go_enter Tryz.func92, Tryz.ntmps92
      go_wp2_with (first | (refine wpList_alloc_row rfl 36 rfl (bs z32) (hzH _) ?_; rw [hW]) | fail)
      refine HE.out.mono ?_
      rintro e w2 ⟨rfl, on⟩
      obtain ⟨on2, g2⟩ := KEEP.out _ _ on
      have HO : Hid (K.On w (w2.setRow w.heap.size (bs z32)) T r a cap L ⟨s.k, 20, L.length⟩) := on_below h9.out on2 (below_setRow _ _ _ _ (Nat.le_refl _)) (Nat.le_refl _)
      clear on2 on
      go_wp2_with (first
        | (refine wpList_store_row rfl 36 _ _ rfl w.heap.size (bs z32) rfl rfl 36 (bs z32) g2 (by rw [hzs]; exact hsH) rfl (bs_one _) ?_)
        | fail)
      exact bodyPost_ret (resQH _ _ w.heap.size 36 z32 z32_len (0, 0) rfl (setRow_heap _ _ _ _ _ _ g2)) rfl ⟨rfl, HO.out⟩
  · have e0 : rHash L s = (z32, s) := by unfold rHash; rw [if_neg hb]
    rw [e0]
    have HE := K.Hid.mk' (K.qends_bad 32 (by decide) W h0 hb)
    clear h h0 e0 g0 ON0 be0
    go_enter Tryz.func92, Tryz.ntmps92
    go_wp2_with (first | (refine wpList_alloc_row rfl 36 rfl (bs z32) (hzH _) ?_; rw [hW]) | fail)
    refine HE.out.mono ?_
    rintro e w2 ⟨rfl, on⟩
    obtain ⟨on2, g2⟩ := KEEP.out _ _ on
    have HO : Hid (K.On w (w2.setRow w.heap.size (bs z32)) T r a cap L s) := on_below h9.out on2 (below_setRow _ _ _ _ (Nat.le_refl _)) (Nat.le_refl _)
    clear on2 on
    go_wp2_with (first
      | (refine wpList_store_row rfl 36 _ _ rfl w.heap.size (bs z32) rfl rfl 36 (bs z32) g2 (by rw [hzs]; exact hsH) rfl (bs_one _) ?_)
      | fail)
    exact bodyPost_ret (resQH _ _ w.heap.size 36 z32 z32_len (0, 0) rfl (setRow_heap _ _ _ _ _ _ g2)) rfl ⟨rfl, HO.out⟩
end Go.Proofs.YtdnocpngdepbgaaGreatDoor

