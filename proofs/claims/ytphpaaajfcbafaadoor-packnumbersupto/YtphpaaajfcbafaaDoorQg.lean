import Derived.Test.YtphpaaajfcbafaaDoorQf
import Derived.Lib.MinMax
namespace Go.Proofs.YtphpaaajfcbafaaDoor.K
open Go.RowKit
set_option linter.unusedVariables false
set_option linter.unusedSimpArgs false

theorem Nums.fr {w w' : World} {a : Option Addr} {X : List Nat} {r : Nat} (h : Nums w a X) (hf : Fr r w w') (hr : ∀ ad, a = some ad → 0 < X.length → ad.block ≠ r) : Nums w' a X := by
  rcases h with rfl | ⟨b, off, rfl, hc⟩
  · exact .inl rfl
  · exact .inr ⟨b, off, rfl, fun j hj => hf.cell (p := ⟨b, off + j, none⟩) (hr ⟨b, off, none⟩ rfl (by omega)) (hc j hj)⟩
theorem SC.fr {w w' : World} {b o : Nat} {row : Bool} {cnt : Int} {a : Option Addr} {cap : Nat} {X : List Nat} {r : Nat} (h : SC w b o row cnt a cap X) (hf : Fr r w w') (hb : b ≠ r) (hr : ∀ ad, a = some ad → 0 < X.length → ad.block ≠ r) : SC w' b o row cnt a cap X :=
  ⟨hf.cell (p := ⟨b, o, none⟩) hb h.c0, hf.cell (p := ⟨b, o + 1, none⟩) hb h.c1, hf.cell (p := ⟨b, o + 2, none⟩) hb h.c2, h.nums.fr hf hr⟩
/-- What stands ahead of a stretch. -/
def AH (w : World) (r : Nat) (ah : Option Addr) (nA : Nat) (prev : Option (Bool × Nat)) : Prop :=
  (nA = 0 ∧ prev = none) ∨ ∃ g k brow bcnt ba bcap Y, ah = some ⟨g, 0, none⟩ ∧ nA = k + 1 ∧ SC w g (3 * k) brow bcnt ba bcap Y ∧ 0 < Y.length ∧ Y.length ≤ 17592186044416 ∧ k ≤ 17592186044416 ∧ prev = some (brow, Y.getD (Y.length - 1) 0) ∧ g ≠ r ∧ (∀ ad, ba = some ad → 0 < Y.length → ad.block ≠ r)
theorem AH.fr {w w' : World} {r : Nat} {ah : Option Addr} {nA : Nat} {prev : Option (Bool × Nat)} (h : AH w r ah nA prev) (hf : Fr r w w') : AH w' r ah nA prev := by
  rcases h with h | ⟨g, k, brow, bcnt, ba, bcap, Y, h1, h2, h3, h4, h5, h6, h7, h8, h9⟩
  · exact .inl h
  · exact .inr ⟨g, k, brow, bcnt, ba, bcap, Y, h1, h2, h3.fr hf h8 h9, h4, h5, h6, h7, h8, h9⟩
theorem fits_any (b o : Nat) (row : Bool) (cnt : Int) (a : Option Addr) (cap : Nat) (X : List Nat) (r : Nat) (ah : Option Addr) (nA cA : Nat) (prev : Option (Bool × Nat)) (w : World) (h : SC w b o row cnt a cap X) (h0 : 0 < X.length) (hl : X.length ≤ 17592186044416) (hA : AH w r ah nA prev) :
    Calls Tryd.prog 50 #[.pointer (some ⟨b, o, none⟩), .slice ah nA cA] w fun e w' => e = .returned (.bool (fitsB row X prev)) ∧ ∃ m, w' = w.drewN m := by
  rcases hA with ⟨rfl, rfl⟩ | ⟨g, k, brow, bcnt, ba, bcap, Y, rfl, rfl, h3, h4, h5, h6, rfl, _, _⟩
  · exact fits_none b o row cnt a cap X ah cA w h h0 hl
  · exact fits_some b o row cnt a cap X g k cA brow bcnt ba bcap Y w h h0 hl h3 h4 h5 h6
/-- What readStretch makes of a state. -/
def PS (L : List UInt8) (most : Nat) (s : St) (prev : Option (Bool × Nat)) (row : Bool) (cnt : Int) (X : List Nat) (s' : St) : Prop :=
  ((pcS L most s).bad ≠ 0 ∧ s'.bad = (pcS L most s).bad ∧ s'.wh = (pcS L most s).wh) ∨
  ((pcS L most s).bad = 0 ∧ row = (!pcR L s) ∧ cnt = ((rInt L s).1.natAbs : Int) ∧ X = (if pcR L s = true then [(rU L (rInt L s).2).1] else pcL L most s) ∧ ((fitsB row X prev = true ∧ s' = pcS L most s) ∨ (fitsB row X prev = false ∧ s'.bad = 21 ∧ s'.wh = (s.k : Int))))
/-- Where a stretch that was read lies. -/
def StP (w w' : World) (r : Nat) (a : Option Addr) (cap : Nat) (L : List UInt8) (most : Nat) (s : St) (prev : Option (Bool × Nat)) (e : Ending) : Prop :=
  ∃ row cnt av cv X s', e = .returned (.agg #[.bool row, .int .i64 cnt, .slice av X.length cv]) ∧ RD w' 90 r a cap L s' ∧ Fr r w w' ∧ Nums w' av X ∧ (∀ ad, av = some ad → 0 < X.length → w.heap.size ≤ ad.block) ∧ PS L most s prev row cnt X s'
variable {r cap : Nat} {a : Option Addr} {L : List UInt8} {s : St}
theorem rInt_rng (L : List UInt8) (s : St) (h : s.k ≤ L.length) : -9223372036854775808 ≤ (rInt L s).1 ∧ (rInt L s).1 ≤ 9223372036854775807 := by
  have := rUint_lt L 18446744073709551615 s h
  unfold rInt unzig
  simp only
  split <;> omega
theorem ni_start {w W2 : World} {s2 : St} (hlt : r < w.heap.size) (ha : ∀ ad, a = some ad → ad.block < w.heap.size) (hon : On (w.alloc (.cells #[.bool false, .int .i64 0, .slice none 0 0] 71)) W2 90 r a cap L s2) (row : Bool) (cnt : Int) :
    W2.heap.size < (W2.alloc (.cells #[.bool row, .int .i64 cnt, .slice none 0 0] 71)).heap.size ∧ r < (W2.alloc (.cells #[.bool row, .int .i64 cnt, .slice none 0 0] 71)).heap.size ∧ W2.heap.size ≠ r ∧ (∀ ad, a = some ad → ad.block ≠ W2.heap.size ∧ ad.block < (W2.alloc (.cells #[.bool row, .int .i64 cnt, .slice none 0 0] 71)).heap.size) ∧
    NI (W2.alloc (.cells #[.bool row, .int .i64 cnt, .slice none 0 0] 71)) (W2.alloc (.cells #[.bool row, .int .i64 cnt, .slice none 0 0] 71)) r W2.heap.size row cnt a cap L s2 0 none 0 := by
  have hz := hon.2.size
  simp at hz
  have be : Below W2.heap.size W2 (W2.alloc (.cells #[.bool row, .int .i64 cnt, .slice none 0 0] 71)) := (Below.refl _ _).alloc (Nat.le_refl _) _
  refine ⟨by simp, by simp; omega, by omega, fun ad e => ⟨by have := ha ad e; omega, by have := ha ad e; simp; omega⟩, ⟨?_, heap_alloc_new _ _, ownV_nil _ _ _, F2.refl _ _ _⟩⟩
  exact hon.1.keep (be.block r (by omega)) (fun ad e => be.block _ (by have := ha ad e; omega))
/-- All but one block is as it was, and none is new. -/
structure F1 (q : Nat) (w w' : World) : Prop where
  os : w'.os = w.os
  tape : w'.tape = w.tape
  output : w'.output = w.output
  size : w'.heap.size = w.heap.size
  block : ∀ k, k ≠ q → w'.heap[k]? = w.heap[k]?
theorem F1.refl (q : Nat) (w : World) : F1 q w w := ⟨rfl, rfl, rfl, rfl, fun _ _ => rfl⟩
theorem F1.set {q : Nat} {w w' : World} (h : F1 q w w') (o : Nat) (v : Value) : F1 q w (w'.setCell ⟨q, o, none⟩ v) :=
  ⟨h.os, h.tape, h.output, by simp [World.setCell]; exact h.size, fun k hk => by rw [Below.heap_setCell _ _ _ _ hk]; exact h.block k hk⟩
theorem stp_fin {w W2 W4 W4b W5 : World} {s2 s' : St} {row : Bool} {cnt : Int} {j : Nat} {av : Option Addr} {cv : Nat} (hlt : r < w.heap.size) (ha : ∀ ad, a = some ad → ad.block < w.heap.size) (hon : On (w.alloc (.cells #[.bool false, .int .i64 0, .slice none 0 0] 71)) W2 90 r a cap L s2)
    (ni : NI (W2.alloc (.cells #[.bool row, .int .i64 cnt, .slice none 0 0] 71)) W4 r W2.heap.size row cnt a cap L s2 j av cv) (on4 : On W4 W4b 90 r a cap L s') (h5 : F1 w.heap.size W4b W5) :
    RD W5 90 r a cap L s' ∧ Fr r w W5 ∧ Nums W5 av (rds L s2 j).1 ∧ (∀ ad, av = some ad → 0 < (rds L s2 j).1.length → w.heap.size ≤ ad.block) := by
  have hz := hon.2.size
  have hz4 := ni.fr.size
  have hz5 := on4.2.size
  simp at hz hz4
  obtain ⟨a1, c1, e1, _, hv, _⟩ := ni.own.open
  simp only [Value.slice.injEq] at e1
  obtain ⟨rfl, _, rfl⟩ := e1
  have hbk : ∀ ad, av = some ad → 0 < (rds L s2 j).1.length → W2.heap.size < ad.block := fun ad e h0 => by
    rcases ni.own.2 with ⟨e2, hn⟩ | ⟨g, cp, cur, e2, hbg, _⟩
    · rw [uC_len] at hn; omega
    · rw [e] at e2
      simp only [Value.slice.injEq, Option.some.injEq] at e2
      rw [e2.1]
      simp at hbg
      show W2.heap.size < g
      omega
  refine ⟨on4.1.keep (h5.block r (by omega)) (fun ad e => h5.block _ (by have := ha ad e; omega)), ⟨?_, ?_, ?_, ?_, fun k hk hr => ?_⟩, ?_, fun ad e h0 => by have := hbk ad e h0; omega⟩
  · exact h5.os.trans (on4.2.os.trans (ni.fr.os.trans hon.2.os))
  · exact h5.tape.trans (on4.2.tape.trans (ni.fr.tape.trans hon.2.tape))
  · exact h5.output.trans (on4.2.output.trans (ni.fr.output.trans hon.2.output))
  · rw [h5.size]; omega
  · rw [h5.block k (by omega), on4.2.block k (by omega) hr, ni.fr.block k (by simp; omega) hr (by omega), heap_alloc_old W2 _ (by omega), hon.2.block k (by simp; omega) hr]
    exact heap_alloc_old w _ hk
  · have hn := vals_nums hv
    rcases hn with e | ⟨b, off, e, hc⟩
    · exact .inl e
    · refine .inr ⟨b, off, e, fun i hi => ?_⟩
      have hb1 : W2.heap.size < b := hbk _ e (by omega)
      have c1 := on4.2.cell (p := ⟨b, off + i, none⟩) (by show b ≠ r; omega) (hc i hi)
      have : W5.cell? ⟨b, off + i, none⟩ = W4b.cell? ⟨b, off + i, none⟩ := by
        unfold World.cell?
        rw [h5.block b (by omega)]
      rw [this, c1]
theorem q0_row {w W2 W4 : World} {s2 : St} {row : Bool} {cnt : Int} {j : Nat} {av : Option Addr} {cv : Nat} (hlt : r < w.heap.size) (hon : On (w.alloc (.cells #[.bool false, .int .i64 0, .slice none 0 0] 71)) W2 90 r a cap L s2)
    (ni : NI (W2.alloc (.cells #[.bool row, .int .i64 cnt, .slice none 0 0] 71)) W4 r W2.heap.size row cnt a cap L s2 j av cv) : W4.heap[w.heap.size]? = some (.cells #[.bool false, .int .i64 0, .slice none 0 0] 71 (0, 0)) ∧ w.heap.size ≠ W2.heap.size := by
  have hz := hon.2.size
  simp at hz
  refine ⟨?_, by omega⟩
  rw [ni.fr.block w.heap.size (by simp; omega) (by omega) (by omega), heap_alloc_old W2 _ (by omega), hon.2.block w.heap.size (by simp) (by omega)]
  exact heap_alloc_new _ _
theorem unz0 : unzig 0 = 0 := by decide
theorem q0_set {W : World} {q : Nat} {x0 y0 z0 : Value} (x y z : Value) (h : W.heap[q]? = some (.cells #[x0, y0, z0] 71 (0, 0))) : (((W.setCell ⟨q, 0, none⟩ x).setCell ⟨q, 1, none⟩ y).setCell ⟨q, 2, none⟩ z).heap[q]? = some (.cells #[x, y, z] 71 (0, 0)) := by
  have h1 : (W.setCell ⟨q, 0, none⟩ x).heap[q]? = some (.cells #[x, y0, z0] 71 (0, 0)) := by rw [heap_setCell_same W q 0 _ 71 _ h]; rfl
  have h2 : ((W.setCell ⟨q, 0, none⟩ x).setCell ⟨q, 1, none⟩ y).heap[q]? = some (.cells #[x, y, z0] 71 (0, 0)) := by rw [heap_setCell_same _ q 1 _ 71 _ h1]; rfl
  rw [heap_setCell_same _ q 2 _ 71 _ h2]
  rfl
theorem stp_end {w W2 W4 W4b W5 : World} {s2 s' : St} {row : Bool} {cnt : Int} {j : Nat} {av : Option Addr} {cv : Nat} {most : Nat} {prev : Option (Bool × Nat)} (hlt : r < w.heap.size) (ha : ∀ ad, a = some ad → ad.block < w.heap.size) (hon : On (w.alloc (.cells #[.bool false, .int .i64 0, .slice none 0 0] 71)) W2 90 r a cap L s2)
    (ni : NI (W2.alloc (.cells #[.bool row, .int .i64 cnt, .slice none 0 0] 71)) W4 r W2.heap.size row cnt a cap L s2 j av cv) (on4 : On W4 W4b 90 r a cap L s') (h5 : F1 w.heap.size W4b W5) (hP : PS L most s prev row cnt (rds L s2 j).1 s') :
    StP w W5 r a cap L most s prev (.returned (.agg #[.bool row, .int .i64 cnt, .slice av j cv])) := by
  obtain ⟨h1, h2, h3, h4⟩ := stp_fin hlt ha hon ni on4 h5
  exact ⟨row, cnt, av, cv, (rds L s2 j).1, s', by rw [rds_len], h1, h2, h3, h4, hP⟩
theorem on_drew {w : World} {T : TypeId} {s : St} (h : RD w T r a cap L s) (m : Nat) : On w (w.drewN m) T r a cap L s := h.on.drew m
theorem res34 (t : Array Value) (W : World) (g : Nat) (x y z : Value) (hp : t.getD 6 undef = .pointer (some ⟨g, 0, none⟩)) (hg : W.heap[g]? = some (.cells #[x, y, z] 71 (0, 0))) : (results Tryd.f34 t).run Tryd.prog W = .ok (.agg #[x, y, z]) W :=
  results_cell_row Tryd.results34 t W g 71 #[x, y, z] (0, 0) _ hp hg Tryd.underlying71 rfl (by kernel_rfl)
set_option maxRecDepth 100000 in
set_option maxHeartbeats 4000000 in
theorem stretch_0 (most : Nat) (ah : Option Addr) (nA cA : Nat) (prev : Option (Bool × Nat)) (w : World) (h : RD w 90 r a cap L s) (ha : ∀ ad, a = some ad → ad.block < w.heap.size) (hm : most ≤ 17592186044416) (hA : AH w r ah nA prev)
    (hc : (rInt L s).1 = 0) :
    Calls Tryd.prog 34 #[.pointer (some ⟨r, 0, none⟩), .int .i64 (most : Int), .slice ah nA cA] w fun e w' => StP w w' r a cap L most s prev e := by
  have hlt := h.lt
  have be0 : Below w.heap.size w (w.alloc (.cells #[.bool false, .int .i64 0, .slice none 0 0] 71)) := (Below.refl _ _).alloc (Nat.le_refl _) _
  have rd0 : RD (w.alloc (.cells #[.bool false, .int .i64 0, .slice none 0 0] 71)) 90 r a cap L s := h.keep (be0.block r hlt) (fun ad e => be0.block _ (ha ad e))
  have HAt := Hid.mk' (rat_any _ rd0)
  have HInt := Hid.mk' (int_any _ rd0)
  have hrng := rInt_rng L s h.at_le
  have HH := Hid.mk' h
  have HHa := Hid.mk' ha
  clear be0 rd0 h ha
  have e2 : pc2 L s = (rInt L s).2.fl 21 s.k := by unfold pc2; rw [if_pos (.inl hc)]
  have hS : pcS L most s = (rInt L s).2.fl 21 s.k := by
    unfold pcS
    by_cases hO : pcO L most s = true
    · rw [if_pos hO, e2, St.fl_bad _ _ _ (fl_bad0 (by decide))]
    · rw [if_neg hO, e2, hc]
      rfl
  have HBD : Hid (((rInt L s).2.fl 21 s.k).bad ≠ 0) := fl_bad0 (by decide)
  have HPS := Hid.mk' hS
  rw [hc] at HInt
  clear e2 hS
  go_enter Tryd.func34, Tryd.ntmps34
  go_wp2_with (first
    | (go_at_call 36; refine HAt.out.mono ?_; rintro e W0 ⟨rfl, hw⟩; obtain rfl := hw)
    | (go_at_call 48; refine HInt.out.mono ?_; rintro e W1 ⟨rfl, on1⟩; have ON1 := Hid.mk' on1; have HFl := Hid.mk' (rfail_any 21 (s.k : Int) W1 on1.1); clear on1)
    | (go_at_call 35; refine HFl.out.mono ?_; rintro e W2 ⟨rfl, on2⟩; have ONX := Hid.mk' (ON1.out.trans on2); clear on2)
    | fail)
  have hst := ni_start HH.out.lt HHa.out ONX.out false (0)
  have HRN := Hid.mk' (loop_nums (1) _ hst.1 hst.2.1 hst.2.2.1 hst.2.2.2.1 hst.2.2.2.2 (by simp) (fun hx => absurd hx HBD.out))
  clear hst
  refine HRN.out.mono ?_
  rintro e W4 ⟨rfl, j, av, cv, ni, _, _⟩
  have HNI := Hid.mk' ni
  have hsb : (rds L ((rInt L s).2.fl 21 s.k) j).2 = (rInt L s).2.fl 21 s.k := by
    have := rds_stay (L := L) (s := (rInt L s).2.fl 21 s.k) (j := 0) HBD.out j
    rwa [Nat.zero_add] at this
  have HST := Hid.mk' (pstop_any W4 ni.rd)
  have HPP : Hid (PS L most s prev false (0) (rds L ((rInt L s).2.fl 21 s.k) j).1 (rds L ((rInt L s).2.fl 21 s.k) j).2) := .inl ⟨by rw [HPS.out]; exact HBD.out, by rw [hsb, HPS.out], by rw [hsb, HPS.out]⟩
  rw [show decide ((rds L ((rInt L s).2.fl 21 s.k) j).2.bad ≠ 0) = true by rw [hsb]; simpa using HBD.out] at HST
  obtain ⟨hq0, hqn⟩ := q0_row HH.out.lt ONX.out ni
  have d0 := (cell_of_row W4 W2.heap.size 0 _ _ _ ni.row).trans (show (#[.bool false, .int .i64 (0), .slice av j cv] : Array Value)[0]? = some (.bool false) from rfl)
  have d1 := (cell_of_row W4 W2.heap.size 1 _ _ _ ni.row).trans (show (#[.bool false, .int .i64 (0), .slice av j cv] : Array Value)[1]? = some (.int .i64 (0)) from rfl)
  have d2 := (cell_of_row W4 W2.heap.size 2 _ _ _ ni.row).trans (show (#[.bool false, .int .i64 (0), .slice av j cv] : Array Value)[2]? = some (.slice av j cv) from rfl)
  have g0 := (cell_of_row W4 w.heap.size 0 _ _ _ hq0).trans (show (#[.bool false, .int .i64 0, .slice none 0 0] : Array Value)[0]? = some (.bool false) from rfl)
  have g1 := (cell_of_row W4 w.heap.size 1 _ _ _ hq0).trans (show (#[.bool false, .int .i64 0, .slice none 0 0] : Array Value)[1]? = some (.int .i64 0) from rfl)
  have g2 := (cell_of_row W4 w.heap.size 2 _ _ _ hq0).trans (show (#[.bool false, .int .i64 0, .slice none 0 0] : Array Value)[2]? = some (.slice none 0 0) from rfl)
  have f0 := frozen_of_row W4 w.heap.size 0 _ _ hq0
  have f1 := frozen_of_row W4 w.heap.size 1 _ _ hq0
  have f2 := frozen_of_row W4 w.heap.size 2 _ _ hq0
  have HQ0 := Hid.mk' hq0
  clear ni hsb HRN hq0
  go_wp2_with (first
    | (go_at_call 33; refine HST.out.mono ?_; rintro e W5 ⟨rfl, m5, rfl⟩)
    | fail)
  exact bodyPost_ret (res34 _ _ w.heap.size _ _ _ rfl (q0_set _ _ _ HQ0.out)) rfl (stp_end HH.out.lt HHa.out ONX.out HNI.out (on_drew HNI.out.rd m5) ((((F1.refl _ _).set 0 _).set 1 _).set 2 _) HPP.out)
set_option maxRecDepth 100000 in
set_option maxHeartbeats 4000000 in
theorem stretch_1 (most : Nat) (ah : Option Addr) (nA cA : Nat) (prev : Option (Bool × Nat)) (w : World) (h : RD w 90 r a cap L s) (ha : ∀ ad, a = some ad → ad.block < w.heap.size) (hm : most ≤ 17592186044416) (hA : AH w r ah nA prev)
    (hc : (rInt L s).1 = 1) :
    Calls Tryd.prog 34 #[.pointer (some ⟨r, 0, none⟩), .int .i64 (most : Int), .slice ah nA cA] w fun e w' => StP w w' r a cap L most s prev e := by
  have hlt := h.lt
  have be0 : Below w.heap.size w (w.alloc (.cells #[.bool false, .int .i64 0, .slice none 0 0] 71)) := (Below.refl _ _).alloc (Nat.le_refl _) _
  have rd0 : RD (w.alloc (.cells #[.bool false, .int .i64 0, .slice none 0 0] 71)) 90 r a cap L s := h.keep (be0.block r hlt) (fun ad e => be0.block _ (ha ad e))
  have HAt := Hid.mk' (rat_any _ rd0)
  have HInt := Hid.mk' (int_any _ rd0)
  have hrng := rInt_rng L s h.at_le
  have HH := Hid.mk' h
  have HHa := Hid.mk' ha
  clear be0 rd0 h ha
  have e2 : pc2 L s = (rInt L s).2.fl 21 s.k := by unfold pc2; rw [if_pos (.inr hc)]
  have hS : pcS L most s = (rInt L s).2.fl 21 s.k := by
    unfold pcS
    by_cases hO : pcO L most s = true
    · rw [if_pos hO, e2, St.fl_bad _ _ _ (fl_bad0 (by decide))]
    · rw [if_neg hO, e2, hc]
      rw [if_pos (by decide), rU_bad (fl_bad0 (by decide))]
  have HBD : Hid (((rInt L s).2.fl 21 s.k).bad ≠ 0) := fl_bad0 (by decide)
  have HPS := Hid.mk' hS
  rw [hc] at HInt
  clear e2 hS
  go_enter Tryd.func34, Tryd.ntmps34
  go_wp2_with (first
    | (go_at_call 36; refine HAt.out.mono ?_; rintro e W0 ⟨rfl, hw⟩; obtain rfl := hw)
    | (go_at_call 48; refine HInt.out.mono ?_; rintro e W1 ⟨rfl, on1⟩; have ON1 := Hid.mk' on1; have HFl := Hid.mk' (rfail_any 21 (s.k : Int) W1 on1.1); clear on1)
    | (go_at_call 35; refine HFl.out.mono ?_; rintro e W2 ⟨rfl, on2⟩; have ONX := Hid.mk' (ON1.out.trans on2); clear on2)
    | fail)
  have hst := ni_start HH.out.lt HHa.out ONX.out false (1)
  have HRN := Hid.mk' (loop_nums (1) _ hst.1 hst.2.1 hst.2.2.1 hst.2.2.2.1 hst.2.2.2.2 (by simp) (fun hx => absurd hx HBD.out))
  clear hst
  refine HRN.out.mono ?_
  rintro e W4 ⟨rfl, j, av, cv, ni, _, _⟩
  have HNI := Hid.mk' ni
  have hsb : (rds L ((rInt L s).2.fl 21 s.k) j).2 = (rInt L s).2.fl 21 s.k := by
    have := rds_stay (L := L) (s := (rInt L s).2.fl 21 s.k) (j := 0) HBD.out j
    rwa [Nat.zero_add] at this
  have HST := Hid.mk' (pstop_any W4 ni.rd)
  have HPP : Hid (PS L most s prev false (1) (rds L ((rInt L s).2.fl 21 s.k) j).1 (rds L ((rInt L s).2.fl 21 s.k) j).2) := .inl ⟨by rw [HPS.out]; exact HBD.out, by rw [hsb, HPS.out], by rw [hsb, HPS.out]⟩
  rw [show decide ((rds L ((rInt L s).2.fl 21 s.k) j).2.bad ≠ 0) = true by rw [hsb]; simpa using HBD.out] at HST
  obtain ⟨hq0, hqn⟩ := q0_row HH.out.lt ONX.out ni
  have d0 := (cell_of_row W4 W2.heap.size 0 _ _ _ ni.row).trans (show (#[.bool false, .int .i64 (1), .slice av j cv] : Array Value)[0]? = some (.bool false) from rfl)
  have d1 := (cell_of_row W4 W2.heap.size 1 _ _ _ ni.row).trans (show (#[.bool false, .int .i64 (1), .slice av j cv] : Array Value)[1]? = some (.int .i64 (1)) from rfl)
  have d2 := (cell_of_row W4 W2.heap.size 2 _ _ _ ni.row).trans (show (#[.bool false, .int .i64 (1), .slice av j cv] : Array Value)[2]? = some (.slice av j cv) from rfl)
  have g0 := (cell_of_row W4 w.heap.size 0 _ _ _ hq0).trans (show (#[.bool false, .int .i64 0, .slice none 0 0] : Array Value)[0]? = some (.bool false) from rfl)
  have g1 := (cell_of_row W4 w.heap.size 1 _ _ _ hq0).trans (show (#[.bool false, .int .i64 0, .slice none 0 0] : Array Value)[1]? = some (.int .i64 0) from rfl)
  have g2 := (cell_of_row W4 w.heap.size 2 _ _ _ hq0).trans (show (#[.bool false, .int .i64 0, .slice none 0 0] : Array Value)[2]? = some (.slice none 0 0) from rfl)
  have f0 := frozen_of_row W4 w.heap.size 0 _ _ hq0
  have f1 := frozen_of_row W4 w.heap.size 1 _ _ hq0
  have f2 := frozen_of_row W4 w.heap.size 2 _ _ hq0
  have HQ0 := Hid.mk' hq0
  clear ni hsb HRN hq0
  go_wp2_with (first
    | (go_at_call 33; refine HST.out.mono ?_; rintro e W5 ⟨rfl, m5, rfl⟩)
    | fail)
  exact bodyPost_ret (res34 _ _ w.heap.size _ _ _ rfl (q0_set _ _ _ HQ0.out)) rfl (stp_end HH.out.lt HHa.out ONX.out HNI.out (on_drew HNI.out.rd m5) ((((F1.refl _ _).set 0 _).set 1 _).set 2 _) HPP.out)
set_option maxRecDepth 100000 in
set_option maxHeartbeats 4000000 in
theorem stretch_B1 (most : Nat) (ah : Option Addr) (nA cA : Nat) (prev : Option (Bool × Nat)) (w : World) (h : RD w 90 r a cap L s) (ha : ∀ ad, a = some ad → ad.block < w.heap.size) (hm : most ≤ 17592186044416) (hA : AH w r ah nA prev)
    (hc : (most : Int) < (rInt L s).1) (hc2 : (rInt L s).1 ≠ 1) :
    Calls Tryd.prog 34 #[.pointer (some ⟨r, 0, none⟩), .int .i64 (most : Int), .slice ah nA cA] w fun e w' => StP w w' r a cap L most s prev e := by
  have hlt := h.lt
  have be0 : Below w.heap.size w (w.alloc (.cells #[.bool false, .int .i64 0, .slice none 0 0] 71)) := (Below.refl _ _).alloc (Nat.le_refl _) _
  have rd0 : RD (w.alloc (.cells #[.bool false, .int .i64 0, .slice none 0 0] 71)) 90 r a cap L s := h.keep (be0.block r hlt) (fun ad e => be0.block _ (ha ad e))
  have HAt := Hid.mk' (rat_any _ rd0)
  have HInt := Hid.mk' (int_any _ rd0)
  have hrng := rInt_rng L s h.at_le
  have HH := Hid.mk' h
  have HHa := Hid.mk' ha
  clear be0 rd0 h ha
  have h01 : ¬ ((rInt L s).1 = 0 ∨ (rInt L s).1 = 1) := by omega
  have e2 : pc2 L s = (rInt L s).2 := by unfold pc2; rw [if_neg h01]
  have hS : pcS L most s = (rInt L s).2.fl 231 s.k := by
    unfold pcS
    rw [if_pos (by rw [pcO_iff]; exact .inl (by omega)), e2]
  have HBD : Hid (((rInt L s).2.fl 231 s.k).bad ≠ 0) := fl_bad0 (by decide)
  have HPS := Hid.mk' hS
  clear e2 hS
  generalize hcc : (rInt L s).1 = c at *
  clear hcc h01
  have k0 : (c == 0) = false := by simp; omega
  have k1 : (c == 1) = false := by simp; omega
  have kn : decide (c < 0) = false := by simp; omega
  have km : max c (-c) = c := by omega
  go_enter Tryd.func34, Tryd.ntmps34
  go_wp2_with (first
    | (go_at_call 36; refine HAt.out.mono ?_; rintro e W0 ⟨rfl, hw⟩; obtain rfl := hw)
    | (go_at_call 48; refine HInt.out.mono ?_; rintro e W1 ⟨rfl, on1⟩; have ON1 := Hid.mk' on1; have HFl := Hid.mk' (rfail_any 231 (s.k : Int) W1 on1.1); clear on1)
    | (go_at_call 35; refine HFl.out.mono ?_; rintro e W2 ⟨rfl, on2⟩; have ONX := Hid.mk' (ON1.out.trans on2); clear on2)
    | fail)
  have hst := ni_start HH.out.lt HHa.out ONX.out false (c)
  have HRN := Hid.mk' (loop_nums (1) _ hst.1 hst.2.1 hst.2.2.1 hst.2.2.2.1 hst.2.2.2.2 (by simp) (fun hx => absurd hx HBD.out))
  clear hst
  refine HRN.out.mono ?_
  rintro e W4 ⟨rfl, j, av, cv, ni, _, _⟩
  have HNI := Hid.mk' ni
  have hsb : (rds L ((rInt L s).2.fl 231 s.k) j).2 = (rInt L s).2.fl 231 s.k := by
    have := rds_stay (L := L) (s := (rInt L s).2.fl 231 s.k) (j := 0) HBD.out j
    rwa [Nat.zero_add] at this
  have HST := Hid.mk' (pstop_any W4 ni.rd)
  have HPP : Hid (PS L most s prev false (c) (rds L ((rInt L s).2.fl 231 s.k) j).1 (rds L ((rInt L s).2.fl 231 s.k) j).2) := .inl ⟨by rw [HPS.out]; exact HBD.out, by rw [hsb, HPS.out], by rw [hsb, HPS.out]⟩
  rw [show decide ((rds L ((rInt L s).2.fl 231 s.k) j).2.bad ≠ 0) = true by rw [hsb]; simpa using HBD.out] at HST
  obtain ⟨hq0, hqn⟩ := q0_row HH.out.lt ONX.out ni
  have d0 := (cell_of_row W4 W2.heap.size 0 _ _ _ ni.row).trans (show (#[.bool false, .int .i64 (c), .slice av j cv] : Array Value)[0]? = some (.bool false) from rfl)
  have d1 := (cell_of_row W4 W2.heap.size 1 _ _ _ ni.row).trans (show (#[.bool false, .int .i64 (c), .slice av j cv] : Array Value)[1]? = some (.int .i64 (c)) from rfl)
  have d2 := (cell_of_row W4 W2.heap.size 2 _ _ _ ni.row).trans (show (#[.bool false, .int .i64 (c), .slice av j cv] : Array Value)[2]? = some (.slice av j cv) from rfl)
  have g0 := (cell_of_row W4 w.heap.size 0 _ _ _ hq0).trans (show (#[.bool false, .int .i64 0, .slice none 0 0] : Array Value)[0]? = some (.bool false) from rfl)
  have g1 := (cell_of_row W4 w.heap.size 1 _ _ _ hq0).trans (show (#[.bool false, .int .i64 0, .slice none 0 0] : Array Value)[1]? = some (.int .i64 0) from rfl)
  have g2 := (cell_of_row W4 w.heap.size 2 _ _ _ hq0).trans (show (#[.bool false, .int .i64 0, .slice none 0 0] : Array Value)[2]? = some (.slice none 0 0) from rfl)
  have f0 := frozen_of_row W4 w.heap.size 0 _ _ hq0
  have f1 := frozen_of_row W4 w.heap.size 1 _ _ hq0
  have f2 := frozen_of_row W4 w.heap.size 2 _ _ hq0
  have HQ0 := Hid.mk' hq0
  clear ni hsb HRN hq0
  go_wp2_with (first
    | (go_at_call 33; refine HST.out.mono ?_; rintro e W5 ⟨rfl, m5, rfl⟩)
    | fail)
  exact bodyPost_ret (res34 _ _ w.heap.size _ _ _ rfl (q0_set _ _ _ HQ0.out)) rfl (stp_end HH.out.lt HHa.out ONX.out HNI.out (on_drew HNI.out.rd m5) ((((F1.refl _ _).set 0 _).set 1 _).set 2 _) HPP.out)
set_option maxRecDepth 100000 in
set_option maxHeartbeats 4000000 in
theorem stretch_B2 (most : Nat) (ah : Option Addr) (nA cA : Nat) (prev : Option (Bool × Nat)) (w : World) (h : RD w 90 r a cap L s) (ha : ∀ ad, a = some ad → ad.block < w.heap.size) (hm : most ≤ 17592186044416) (hA : AH w r ah nA prev)
    (hc : (rInt L s).1 < -(most : Int)) (hc2 : -9223372036854775808 < (rInt L s).1) :
    Calls Tryd.prog 34 #[.pointer (some ⟨r, 0, none⟩), .int .i64 (most : Int), .slice ah nA cA] w fun e w' => StP w w' r a cap L most s prev e := by
  have hlt := h.lt
  have be0 : Below w.heap.size w (w.alloc (.cells #[.bool false, .int .i64 0, .slice none 0 0] 71)) := (Below.refl _ _).alloc (Nat.le_refl _) _
  have rd0 : RD (w.alloc (.cells #[.bool false, .int .i64 0, .slice none 0 0] 71)) 90 r a cap L s := h.keep (be0.block r hlt) (fun ad e => be0.block _ (ha ad e))
  have HAt := Hid.mk' (rat_any _ rd0)
  have HInt := Hid.mk' (int_any _ rd0)
  have hrng := rInt_rng L s h.at_le
  have HH := Hid.mk' h
  have HHa := Hid.mk' ha
  clear be0 rd0 h ha
  have h01 : ¬ ((rInt L s).1 = 0 ∨ (rInt L s).1 = 1) := by omega
  have e2 : pc2 L s = (rInt L s).2 := by unfold pc2; rw [if_neg h01]
  have hS : pcS L most s = (rInt L s).2.fl 231 s.k := by
    unfold pcS
    rw [if_pos (by rw [pcO_iff]; exact .inr (by omega)), e2]
  have HBD : Hid (((rInt L s).2.fl 231 s.k).bad ≠ 0) := fl_bad0 (by decide)
  have HPS := Hid.mk' hS
  clear e2 hS
  generalize hcc : (rInt L s).1 = c at *
  clear hcc h01
  have k0 : (c == 0) = false := by simp; omega
  have k1 : (c == 1) = false := by simp; omega
  have kn : decide (c < 0) = true := by simp; omega
  have km : max c (-c) = -c := by omega
  have ko : ¬ (most : Int) < c := by omega
  go_enter Tryd.func34, Tryd.ntmps34
  go_wp2_with (first
    | (go_at_call 36; refine HAt.out.mono ?_; rintro e W0 ⟨rfl, hw⟩; obtain rfl := hw)
    | (go_at_call 48; refine HInt.out.mono ?_; rintro e W1 ⟨rfl, on1⟩; have ON1 := Hid.mk' on1; have HFl := Hid.mk' (rfail_any 231 (s.k : Int) W1 on1.1); clear on1)
    | (go_at_call 35; refine HFl.out.mono ?_; rintro e W2 ⟨rfl, on2⟩; have ONX := Hid.mk' (ON1.out.trans on2); clear on2)
    | fail)
  have hst := ni_start HH.out.lt HHa.out ONX.out true (-c)
  have HRN := Hid.mk' (loop_nums (-c) _ hst.1 hst.2.1 hst.2.2.1 hst.2.2.2.1 hst.2.2.2.2 (by simp) (fun hx => absurd hx HBD.out))
  clear hst
  refine HRN.out.mono ?_
  rintro e W4 ⟨rfl, j, av, cv, ni, _, _⟩
  have HNI := Hid.mk' ni
  have hsb : (rds L ((rInt L s).2.fl 231 s.k) j).2 = (rInt L s).2.fl 231 s.k := by
    have := rds_stay (L := L) (s := (rInt L s).2.fl 231 s.k) (j := 0) HBD.out j
    rwa [Nat.zero_add] at this
  have HST := Hid.mk' (pstop_any W4 ni.rd)
  have HPP : Hid (PS L most s prev true (-c) (rds L ((rInt L s).2.fl 231 s.k) j).1 (rds L ((rInt L s).2.fl 231 s.k) j).2) := .inl ⟨by rw [HPS.out]; exact HBD.out, by rw [hsb, HPS.out], by rw [hsb, HPS.out]⟩
  rw [show decide ((rds L ((rInt L s).2.fl 231 s.k) j).2.bad ≠ 0) = true by rw [hsb]; simpa using HBD.out] at HST
  obtain ⟨hq0, hqn⟩ := q0_row HH.out.lt ONX.out ni
  have d0 := (cell_of_row W4 W2.heap.size 0 _ _ _ ni.row).trans (show (#[.bool true, .int .i64 (-c), .slice av j cv] : Array Value)[0]? = some (.bool true) from rfl)
  have d1 := (cell_of_row W4 W2.heap.size 1 _ _ _ ni.row).trans (show (#[.bool true, .int .i64 (-c), .slice av j cv] : Array Value)[1]? = some (.int .i64 (-c)) from rfl)
  have d2 := (cell_of_row W4 W2.heap.size 2 _ _ _ ni.row).trans (show (#[.bool true, .int .i64 (-c), .slice av j cv] : Array Value)[2]? = some (.slice av j cv) from rfl)
  have g0 := (cell_of_row W4 w.heap.size 0 _ _ _ hq0).trans (show (#[.bool false, .int .i64 0, .slice none 0 0] : Array Value)[0]? = some (.bool false) from rfl)
  have g1 := (cell_of_row W4 w.heap.size 1 _ _ _ hq0).trans (show (#[.bool false, .int .i64 0, .slice none 0 0] : Array Value)[1]? = some (.int .i64 0) from rfl)
  have g2 := (cell_of_row W4 w.heap.size 2 _ _ _ hq0).trans (show (#[.bool false, .int .i64 0, .slice none 0 0] : Array Value)[2]? = some (.slice none 0 0) from rfl)
  have f0 := frozen_of_row W4 w.heap.size 0 _ _ hq0
  have f1 := frozen_of_row W4 w.heap.size 1 _ _ hq0
  have f2 := frozen_of_row W4 w.heap.size 2 _ _ hq0
  have HQ0 := Hid.mk' hq0
  clear ni hsb HRN hq0
  go_wp2_with (first
    | (go_at_call 33; refine HST.out.mono ?_; rintro e W5 ⟨rfl, m5, rfl⟩)
    | fail)
  exact bodyPost_ret (res34 _ _ w.heap.size _ _ _ rfl (q0_set _ _ _ HQ0.out)) rfl (stp_end HH.out.lt HHa.out ONX.out HNI.out (on_drew HNI.out.rd m5) ((((F1.refl _ _).set 0 _).set 1 _).set 2 _) HPP.out)
set_option maxRecDepth 100000 in
set_option maxHeartbeats 4000000 in
theorem stretch_B3 (most : Nat) (ah : Option Addr) (nA cA : Nat) (prev : Option (Bool × Nat)) (w : World) (h : RD w 90 r a cap L s) (ha : ∀ ad, a = some ad → ad.block < w.heap.size) (hm : most ≤ 17592186044416) (hA : AH w r ah nA prev)
    (hc : (rInt L s).1 < -(most : Int)) (hc2 : (rInt L s).1 = -9223372036854775808) :
    Calls Tryd.prog 34 #[.pointer (some ⟨r, 0, none⟩), .int .i64 (most : Int), .slice ah nA cA] w fun e w' => StP w w' r a cap L most s prev e := by
  have hlt := h.lt
  have be0 : Below w.heap.size w (w.alloc (.cells #[.bool false, .int .i64 0, .slice none 0 0] 71)) := (Below.refl _ _).alloc (Nat.le_refl _) _
  have rd0 : RD (w.alloc (.cells #[.bool false, .int .i64 0, .slice none 0 0] 71)) 90 r a cap L s := h.keep (be0.block r hlt) (fun ad e => be0.block _ (ha ad e))
  have HAt := Hid.mk' (rat_any _ rd0)
  have HInt := Hid.mk' (int_any _ rd0)
  have hrng := rInt_rng L s h.at_le
  have HH := Hid.mk' h
  have HHa := Hid.mk' ha
  clear be0 rd0 h ha
  have h01 : ¬ ((rInt L s).1 = 0 ∨ (rInt L s).1 = 1) := by omega
  have e2 : pc2 L s = (rInt L s).2 := by unfold pc2; rw [if_neg h01]
  have hS : pcS L most s = (rInt L s).2.fl 231 s.k := by
    unfold pcS
    rw [if_pos (by rw [pcO_iff]; exact .inr (by omega)), e2]
  have HBD : Hid (((rInt L s).2.fl 231 s.k).bad ≠ 0) := fl_bad0 (by decide)
  have HPS := Hid.mk' hS
  clear e2 hS
  rw [hc2] at HInt
  generalize hcc : (rInt L s).1 = c at *
  clear hcc h01
  subst hc2
  have ko : ¬ (most : Int) < -9223372036854775808 := by omega
  have kx : max (-9223372036854775808 : Int) (wrap64 9223372036854775808) = -9223372036854775808 := by unfold wrap64; omega
  have kw : wrap64 9223372036854775808 = -9223372036854775808 := by unfold wrap64; omega
  go_enter Tryd.func34, Tryd.ntmps34
  go_wp2_with (first
    | (go_at_call 36; refine HAt.out.mono ?_; rintro e W0 ⟨rfl, hw⟩; obtain rfl := hw)
    | (go_at_call 48; refine HInt.out.mono ?_; rintro e W1 ⟨rfl, on1⟩; have ON1 := Hid.mk' on1; have HFl := Hid.mk' (rfail_any 231 (s.k : Int) W1 on1.1); clear on1)
    | (go_at_call 35; refine HFl.out.mono ?_; rintro e W2 ⟨rfl, on2⟩; have ONX := Hid.mk' (ON1.out.trans on2); clear on2)
    | fail)
  have hst := ni_start HH.out.lt HHa.out ONX.out true (-9223372036854775808)
  have HRN := Hid.mk' (loop_nums (-9223372036854775808) _ hst.1 hst.2.1 hst.2.2.1 hst.2.2.2.1 hst.2.2.2.2 (by simp) (fun hx => absurd hx HBD.out))
  clear hst
  refine HRN.out.mono ?_
  rintro e W4 ⟨rfl, j, av, cv, ni, _, _⟩
  have HNI := Hid.mk' ni
  have hsb : (rds L ((rInt L s).2.fl 231 s.k) j).2 = (rInt L s).2.fl 231 s.k := by
    have := rds_stay (L := L) (s := (rInt L s).2.fl 231 s.k) (j := 0) HBD.out j
    rwa [Nat.zero_add] at this
  have HST := Hid.mk' (pstop_any W4 ni.rd)
  have HPP : Hid (PS L most s prev true (-9223372036854775808) (rds L ((rInt L s).2.fl 231 s.k) j).1 (rds L ((rInt L s).2.fl 231 s.k) j).2) := .inl ⟨by rw [HPS.out]; exact HBD.out, by rw [hsb, HPS.out], by rw [hsb, HPS.out]⟩
  rw [show decide ((rds L ((rInt L s).2.fl 231 s.k) j).2.bad ≠ 0) = true by rw [hsb]; simpa using HBD.out] at HST
  obtain ⟨hq0, hqn⟩ := q0_row HH.out.lt ONX.out ni
  have d0 := (cell_of_row W4 W2.heap.size 0 _ _ _ ni.row).trans (show (#[.bool true, .int .i64 (-9223372036854775808), .slice av j cv] : Array Value)[0]? = some (.bool true) from rfl)
  have d1 := (cell_of_row W4 W2.heap.size 1 _ _ _ ni.row).trans (show (#[.bool true, .int .i64 (-9223372036854775808), .slice av j cv] : Array Value)[1]? = some (.int .i64 (-9223372036854775808)) from rfl)
  have d2 := (cell_of_row W4 W2.heap.size 2 _ _ _ ni.row).trans (show (#[.bool true, .int .i64 (-9223372036854775808), .slice av j cv] : Array Value)[2]? = some (.slice av j cv) from rfl)
  have g0 := (cell_of_row W4 w.heap.size 0 _ _ _ hq0).trans (show (#[.bool false, .int .i64 0, .slice none 0 0] : Array Value)[0]? = some (.bool false) from rfl)
  have g1 := (cell_of_row W4 w.heap.size 1 _ _ _ hq0).trans (show (#[.bool false, .int .i64 0, .slice none 0 0] : Array Value)[1]? = some (.int .i64 0) from rfl)
  have g2 := (cell_of_row W4 w.heap.size 2 _ _ _ hq0).trans (show (#[.bool false, .int .i64 0, .slice none 0 0] : Array Value)[2]? = some (.slice none 0 0) from rfl)
  have f0 := frozen_of_row W4 w.heap.size 0 _ _ hq0
  have f1 := frozen_of_row W4 w.heap.size 1 _ _ hq0
  have f2 := frozen_of_row W4 w.heap.size 2 _ _ hq0
  have HQ0 := Hid.mk' hq0
  clear ni hsb HRN hq0
  go_wp2_with (first
    | (go_at_call 33; refine HST.out.mono ?_; rintro e W5 ⟨rfl, m5, rfl⟩)
    | fail)
  exact bodyPost_ret (res34 _ _ w.heap.size _ _ _ rfl (q0_set _ _ _ HQ0.out)) rfl (stp_end HH.out.lt HHa.out ONX.out HNI.out (on_drew HNI.out.rd m5) ((((F1.refl _ _).set 0 _).set 1 _).set 2 _) HPP.out)
set_option maxRecDepth 100000 in
set_option maxHeartbeats 4000000 in
theorem stretch_C1 (most : Nat) (ah : Option Addr) (nA cA : Nat) (prev : Option (Bool × Nat)) (w : World) (h : RD w 90 r a cap L s) (ha : ∀ ad, a = some ad → ad.block < w.heap.size) (hm : most ≤ 17592186044416) (hA : AH w r ah nA prev)
    (hc : (rInt L s).1 ≤ (most : Int)) (hc2 : 2 ≤ (rInt L s).1) :
    Calls Tryd.prog 34 #[.pointer (some ⟨r, 0, none⟩), .int .i64 (most : Int), .slice ah nA cA] w fun e w' => StP w w' r a cap L most s prev e := by
  have hlt := h.lt
  have be0 : Below w.heap.size w (w.alloc (.cells #[.bool false, .int .i64 0, .slice none 0 0] 71)) := (Below.refl _ _).alloc (Nat.le_refl _) _
  have rd0 : RD (w.alloc (.cells #[.bool false, .int .i64 0, .slice none 0 0] 71)) 90 r a cap L s := h.keep (be0.block r hlt) (fun ad e => be0.block _ (ha ad e))
  have HAt := Hid.mk' (rat_any _ rd0)
  have HInt := Hid.mk' (int_any _ rd0)
  have hrng := rInt_rng L s h.at_le
  have HH := Hid.mk' h
  have HHa := Hid.mk' ha
  clear be0 rd0 h ha
  have h01 : ¬ ((rInt L s).1 = 0 ∨ (rInt L s).1 = 1) := by omega
  have e2 : pc2 L s = (rInt L s).2 := by unfold pc2; rw [if_neg h01]
  have hO : ¬ pcO L most s = true := by rw [pcO_iff]; omega
  have HS1 : Hid ((rInt L s).2.bad = 0) := by
    show _ = _
    by_cases hx : (rInt L s).2.bad = 0
    · exact hx
    · exfalso
      have hy : (rInt L s).1 = 0 := by
        unfold rInt at hx ⊢
        unfold rUint at hx ⊢
        by_cases hb0 : s.bad = 0
        · rw [if_pos hb0] at hx ⊢
          by_cases hw0 : (num L s.k).why = 0
          · rw [if_pos hw0] at hx ⊢
            by_cases hv0 : (num L s.k).v ≤ 18446744073709551615
            · rw [if_pos hv0] at hx
              exact absurd hb0 hx
            · rw [if_neg hv0]; exact unz0
          · rw [if_neg hw0]; exact unz0
        · rw [if_neg hb0]; exact unz0
      omega
  have HPS : Hid (pcS L most s = (rds L (rInt L s).2 1).2) := by
    show _ = _
    unfold pcS
    rw [if_neg hO, if_pos (by omega), e2]
    rfl
  have hR : pcR L s = true := by unfold pcR; simp; omega
  have HP1 : Hid (false = (!pcR L s)) := by show _ = _; rw [hR]; rfl
  have HP3 : Hid ((rds L (rInt L s).2 1).1 = (if pcR L s = true then [(rU L (rInt L s).2).1] else pcL L most s)) := by show _ = _; rw [if_pos hR]; rfl
  clear hO e2 hR
  generalize hcc : (rInt L s).1 = c at *
  have HP2 : Hid (c = ((rInt L s).1.natAbs : Int)) := by show _ = _; rw [hcc]; omega
  clear hcc h01
  have k0 : (c == 0) = false := by simp; omega
  have k1 : (c == 1) = false := by simp; omega
  have kn : decide (c < 0) = false := by simp; omega
  have km : max c (-c) = c := by omega
  have ko : ¬ (most : Int) < c := by omega
  have kp : ¬ c < -(most : Int) := by omega
  go_enter Tryd.func34, Tryd.ntmps34
  go_wp2_with (first
    | (go_at_call 36; refine HAt.out.mono ?_; rintro e W0 ⟨rfl, hw⟩; obtain rfl := hw)
    | (go_at_call 48; refine HInt.out.mono ?_; rintro e W2 ⟨rfl, on1⟩; have ONX := Hid.mk' on1; clear on1)
    | fail)
  have hst := ni_start HH.out.lt HHa.out ONX.out false (c)
  have HRN := Hid.mk' (loop_nums (1) _ hst.1 hst.2.1 hst.2.2.1 hst.2.2.2.1 hst.2.2.2.2 (by simp) (fun _ => by omega))
  clear hst
  refine HRN.out.mono ?_
  rintro e W4 ⟨rfl, j, av, cv, ni, hj1, hj2⟩
  have hj1 := hj1 HS1.out
  have HNI := Hid.mk' ni
  have HST := Hid.mk' (pstop_any W4 ni.rd)
  obtain ⟨hq0, hqn⟩ := q0_row HH.out.lt ONX.out ni
  have d0 := (cell_of_row W4 W2.heap.size 0 _ _ _ ni.row).trans (show (#[.bool false, .int .i64 (c), .slice av j cv] : Array Value)[0]? = some (.bool false) from rfl)
  have d1 := (cell_of_row W4 W2.heap.size 1 _ _ _ ni.row).trans (show (#[.bool false, .int .i64 (c), .slice av j cv] : Array Value)[1]? = some (.int .i64 (c)) from rfl)
  have d2 := (cell_of_row W4 W2.heap.size 2 _ _ _ ni.row).trans (show (#[.bool false, .int .i64 (c), .slice av j cv] : Array Value)[2]? = some (.slice av j cv) from rfl)
  have g0 := (cell_of_row W4 w.heap.size 0 _ _ _ hq0).trans (show (#[.bool false, .int .i64 0, .slice none 0 0] : Array Value)[0]? = some (.bool false) from rfl)
  have g1 := (cell_of_row W4 w.heap.size 1 _ _ _ hq0).trans (show (#[.bool false, .int .i64 0, .slice none 0 0] : Array Value)[1]? = some (.int .i64 0) from rfl)
  have g2 := (cell_of_row W4 w.heap.size 2 _ _ _ hq0).trans (show (#[.bool false, .int .i64 0, .slice none 0 0] : Array Value)[2]? = some (.slice none 0 0) from rfl)
  have f0 := frozen_of_row W4 w.heap.size 0 _ _ hq0
  have f1 := frozen_of_row W4 w.heap.size 1 _ _ hq0
  have f2 := frozen_of_row W4 w.heap.size 2 _ _ hq0
  have HQ0 := Hid.mk' hq0
  by_cases hbd : (rds L (rInt L s).2 j).2.bad = 0
  · have hj2 := hj2 hbd
    obtain rfl : j = 1 := by omega
    have hX : (rds L (rInt L s).2 (1)).1.length = 1 := rds_len _ _ _
    have sc : SC W4 W2.heap.size 0 false (c) av cv (rds L (rInt L s).2 (1)).1 := by
      obtain ⟨a1, c1, e1, _, hv, _⟩ := ni.own.open
      simp only [Value.slice.injEq] at e1
      obtain ⟨rfl, _, rfl⟩ := e1
      exact ⟨d0, d1, by rw [hX]; exact d2, vals_nums hv⟩
    have fr4 := (stp_fin HH.out.lt HHa.out ONX.out ni ni.rd.on (F1.refl _ _)).2.1
    have HFi := Hid.mk' (fun m => fits_any W2.heap.size 0 false (c) av cv (rds L (rInt L s).2 (1)).1 r ah nA cA prev (W4.drewN m) (sc.drew m) (by omega) (by omega) ((hA.fr fr4).fr (Fr.drew r W4 m)))
    rw [show decide ((rds L (rInt L s).2 (1)).2.bad ≠ 0) = false by simp [hbd]] at HST
    have HFl := Hid.mk' (fun m => rfail_any 21 (s.k : Int) (W4.drewN m) (ni.rd.drew m))
    by_cases hfi : fitsB false (rds L (rInt L s).2 (1)).1 prev = true
    · rw [hfi] at HFi
      have HPP : Hid (PS L most s prev false (c) (rds L (rInt L s).2 (1)).1 (rds L (rInt L s).2 (1)).2) := .inr ⟨by rw [HPS.out]; exact hbd, HP1.out, HP2.out, HP3.out, .inl ⟨hfi, HPS.out.symm⟩⟩
      clear ni HRN hq0 sc fr4 hfi HFl
      go_wp2_with (first
        | (go_at_call 33; refine HST.out.mono ?_; rintro e W5 ⟨rfl, m5, rfl⟩)
        | (go_at_call 50; refine (HFi.out _).mono ?_; rintro e W6 ⟨rfl, m6, rfl⟩)
        | fail)
      first
        | exact bodyPost_ret (res34 _ _ w.heap.size _ _ _ rfl (q0_set _ _ _ HQ0.out)) rfl (stp_end HH.out.lt HHa.out ONX.out HNI.out (on_drew HNI.out.rd (m5 + m6)) ((((F1.refl _ _).set 0 _).set 1 _).set 2 _) HPP.out)
        | exact bodyPost_ret (res34 _ _ w.heap.size _ _ _ rfl (q0_set _ _ _ HQ0.out)) rfl (stp_end HH.out.lt HHa.out ONX.out HNI.out ((on_drew HNI.out.rd m5).drew m6) ((((F1.refl _ _).set 0 _).set 1 _).set 2 _) HPP.out)
    · have hfi : fitsB false (rds L (rInt L s).2 (1)).1 prev = false := by simpa using hfi
      rw [hfi] at HFi
      have hfl : (rds L (rInt L s).2 (1)).2.fl 21 s.k = ⟨(rds L (rInt L s).2 (1)).2.k, 21, s.k⟩ := St.fl_new _ _ _ hbd (by decide)
      have HPP : Hid (PS L most s prev false (c) (rds L (rInt L s).2 (1)).1 ((rds L (rInt L s).2 (1)).2.fl 21 s.k)) := .inr ⟨by rw [HPS.out]; exact hbd, HP1.out, HP2.out, HP3.out, .inr ⟨hfi, by rw [hfl], by rw [hfl]⟩⟩
      clear hfl
      have HQF : Hid (∀ m W, On (W4.drewN m) W 90 r a cap L ((rds L (rInt L s).2 (1)).2.fl 21 s.k) → W.heap[w.heap.size]? = W4.heap[w.heap.size]? ∧ W.heap[W2.heap.size]? = W4.heap[W2.heap.size]?) := fun m W on => ⟨on.2.block w.heap.size (by have := (Array.getElem?_eq_some_iff.1 hq0).1; exact this) (by omega), on.2.block W2.heap.size (by have := (Array.getElem?_eq_some_iff.1 ni.row).1; exact this) (by have := ONX.out.2.size; simp at this; omega)⟩
      have HRow := Hid.mk' ni.row
      clear ni HRN sc fr4 hfi
      go_wp2_with (first
        | (go_at_call 33; refine HST.out.mono ?_; rintro e W5 ⟨rfl, m5, rfl⟩)
        | (go_at_call 50; refine (HFi.out _).mono ?_; rintro e W6 ⟨rfl, m6, rfl⟩)
        | (go_at_call 35; refine (HFl.out _).mono ?_)
        | fail)
      rintro e W7 ⟨rfl, on7⟩
      obtain ⟨b1, b2⟩ := HQF.out _ _ on7
      have ON7 := Hid.mk' on7
      have hq7 := b1.trans HQ0.out
      have hr7 := b2.trans HRow.out
      clear d0 d1 d2 g0 g1 g2 f0 f1 f2 on7 b1 b2
      have d0 := (cell_of_row W7 W2.heap.size 0 _ _ _ hr7).trans (show (#[.bool false, .int .i64 (c), .slice av (1) cv] : Array Value)[0]? = some (.bool false) from rfl)
      have d1 := (cell_of_row W7 W2.heap.size 1 _ _ _ hr7).trans (show (#[.bool false, .int .i64 (c), .slice av (1) cv] : Array Value)[1]? = some (.int .i64 (c)) from rfl)
      have d2 := (cell_of_row W7 W2.heap.size 2 _ _ _ hr7).trans (show (#[.bool false, .int .i64 (c), .slice av (1) cv] : Array Value)[2]? = some (.slice av (1) cv) from rfl)
      have g0 := (cell_of_row W7 w.heap.size 0 _ _ _ hq7).trans (show (#[.bool false, .int .i64 0, .slice none 0 0] : Array Value)[0]? = some (.bool false) from rfl)
      have g1 := (cell_of_row W7 w.heap.size 1 _ _ _ hq7).trans (show (#[.bool false, .int .i64 0, .slice none 0 0] : Array Value)[1]? = some (.int .i64 0) from rfl)
      have g2 := (cell_of_row W7 w.heap.size 2 _ _ _ hq7).trans (show (#[.bool false, .int .i64 0, .slice none 0 0] : Array Value)[2]? = some (.slice none 0 0) from rfl)
      have f0 := frozen_of_row W7 w.heap.size 0 _ _ hq7
      have f1 := frozen_of_row W7 w.heap.size 1 _ _ hq7
      have f2 := frozen_of_row W7 w.heap.size 2 _ _ hq7
      have HQ7 := Hid.mk' hq7
      clear hq7 hr7 hq0
      go_wp2
      first
        | exact bodyPost_ret (res34 _ _ w.heap.size _ _ _ rfl (q0_set _ _ _ HQ7.out)) rfl (stp_end HH.out.lt HHa.out ONX.out HNI.out ((on_drew HNI.out.rd _).trans ON7.out) ((((F1.refl _ _).set 0 _).set 1 _).set 2 _) HPP.out)
        | exact bodyPost_ret (res34 _ _ w.heap.size _ _ _ rfl (q0_set _ _ _ HQ7.out)) rfl (stp_end HH.out.lt HHa.out ONX.out HNI.out (((on_drew HNI.out.rd m5).drew m6).trans ON7.out) ((((F1.refl _ _).set 0 _).set 1 _).set 2 _) HPP.out)
  · have hst2 : (rds L (rInt L s).2 (1)).2 = (rds L (rInt L s).2 j).2 := by
      have := rds_stay (L := L) (s := (rInt L s).2) (j := j) hbd (1 - j)
      rwa [show j + (1 - j) = 1 by omega] at this
    have HPP : Hid (PS L most s prev false (c) (rds L (rInt L s).2 j).1 (rds L (rInt L s).2 j).2) := .inl ⟨by rw [HPS.out, hst2]; exact hbd, by rw [HPS.out, hst2], by rw [HPS.out, hst2]⟩
    rw [show decide ((rds L (rInt L s).2 j).2.bad ≠ 0) = true by simpa using hbd] at HST
    clear ni HRN hq0 hst2 hbd
    go_wp2_with (first
      | (go_at_call 33; refine HST.out.mono ?_; rintro e W5 ⟨rfl, m5, rfl⟩)
      | fail)
    exact bodyPost_ret (res34 _ _ w.heap.size _ _ _ rfl (q0_set _ _ _ HQ0.out)) rfl (stp_end HH.out.lt HHa.out ONX.out HNI.out (on_drew HNI.out.rd m5) ((((F1.refl _ _).set 0 _).set 1 _).set 2 _) HPP.out)
set_option maxRecDepth 100000 in
set_option maxHeartbeats 4000000 in
theorem stretch_C2 (most : Nat) (ah : Option Addr) (nA cA : Nat) (prev : Option (Bool × Nat)) (w : World) (h : RD w 90 r a cap L s) (ha : ∀ ad, a = some ad → ad.block < w.heap.size) (hm : most ≤ 17592186044416) (hA : AH w r ah nA prev)
    (hc : -(most : Int) ≤ (rInt L s).1) (hc2 : (rInt L s).1 < 0) :
    Calls Tryd.prog 34 #[.pointer (some ⟨r, 0, none⟩), .int .i64 (most : Int), .slice ah nA cA] w fun e w' => StP w w' r a cap L most s prev e := by
  have hlt := h.lt
  have be0 : Below w.heap.size w (w.alloc (.cells #[.bool false, .int .i64 0, .slice none 0 0] 71)) := (Below.refl _ _).alloc (Nat.le_refl _) _
  have rd0 : RD (w.alloc (.cells #[.bool false, .int .i64 0, .slice none 0 0] 71)) 90 r a cap L s := h.keep (be0.block r hlt) (fun ad e => be0.block _ (ha ad e))
  have HAt := Hid.mk' (rat_any _ rd0)
  have HInt := Hid.mk' (int_any _ rd0)
  have hrng := rInt_rng L s h.at_le
  have HH := Hid.mk' h
  have HHa := Hid.mk' ha
  clear be0 rd0 h ha
  have h01 : ¬ ((rInt L s).1 = 0 ∨ (rInt L s).1 = 1) := by omega
  have e2 : pc2 L s = (rInt L s).2 := by unfold pc2; rw [if_neg h01]
  have hO : ¬ pcO L most s = true := by rw [pcO_iff]; omega
  have HS1 : Hid ((rInt L s).2.bad = 0) := by
    show _ = _
    by_cases hx : (rInt L s).2.bad = 0
    · exact hx
    · exfalso
      have hy : (rInt L s).1 = 0 := by
        unfold rInt at hx ⊢
        unfold rUint at hx ⊢
        by_cases hb0 : s.bad = 0
        · rw [if_pos hb0] at hx ⊢
          by_cases hw0 : (num L s.k).why = 0
          · rw [if_pos hw0] at hx ⊢
            by_cases hv0 : (num L s.k).v ≤ 18446744073709551615
            · rw [if_pos hv0] at hx
              exact absurd hb0 hx
            · rw [if_neg hv0]; exact unz0
          · rw [if_neg hw0]; exact unz0
        · rw [if_neg hb0]; exact unz0
      omega
  have HPS : Hid (pcS L most s = (rds L (rInt L s).2 (-(rInt L s).1).toNat).2) := by
    show _ = _
    unfold pcS
    rw [if_neg hO, if_neg (by omega), e2]
  have hR : ¬ pcR L s = true := by unfold pcR; simp; omega
  have HP1 : Hid (true = (!pcR L s)) := by show _ = _; simp at hR; rw [hR]; rfl
  have HP3 : Hid ((rds L (rInt L s).2 (-(rInt L s).1).toNat).1 = (if pcR L s = true then [(rU L (rInt L s).2).1] else pcL L most s)) := by
    show _ = _
    rw [if_neg hR]
    unfold pcL
    rw [if_neg hO, if_neg (by omega), e2]
  clear hO e2 hR
  generalize hcc : (rInt L s).1 = c at *
  have HP2 : Hid (-c = ((rInt L s).1.natAbs : Int)) := by show _ = _; rw [hcc]; omega
  clear hcc h01
  have k0 : (c == 0) = false := by simp; omega
  have k1 : (c == 1) = false := by simp; omega
  have kn : decide (c < 0) = true := by simp; omega
  have km : max c (-c) = -c := by omega
  have ko : ¬ (most : Int) < c := by omega
  have kp : ¬ c < -(most : Int) := by omega
  go_enter Tryd.func34, Tryd.ntmps34
  go_wp2_with (first
    | (go_at_call 36; refine HAt.out.mono ?_; rintro e W0 ⟨rfl, hw⟩; obtain rfl := hw)
    | (go_at_call 48; refine HInt.out.mono ?_; rintro e W2 ⟨rfl, on1⟩; have ONX := Hid.mk' on1; clear on1)
    | fail)
  have hst := ni_start HH.out.lt HHa.out ONX.out true (-c)
  have HRN := Hid.mk' (loop_nums (-c) _ hst.1 hst.2.1 hst.2.2.1 hst.2.2.2.1 hst.2.2.2.2 (by simp) (fun _ => by omega))
  clear hst
  refine HRN.out.mono ?_
  rintro e W4 ⟨rfl, j, av, cv, ni, hj1, hj2⟩
  have hj1 := hj1 HS1.out
  have HNI := Hid.mk' ni
  have HST := Hid.mk' (pstop_any W4 ni.rd)
  obtain ⟨hq0, hqn⟩ := q0_row HH.out.lt ONX.out ni
  have d0 := (cell_of_row W4 W2.heap.size 0 _ _ _ ni.row).trans (show (#[.bool true, .int .i64 (-c), .slice av j cv] : Array Value)[0]? = some (.bool true) from rfl)
  have d1 := (cell_of_row W4 W2.heap.size 1 _ _ _ ni.row).trans (show (#[.bool true, .int .i64 (-c), .slice av j cv] : Array Value)[1]? = some (.int .i64 (-c)) from rfl)
  have d2 := (cell_of_row W4 W2.heap.size 2 _ _ _ ni.row).trans (show (#[.bool true, .int .i64 (-c), .slice av j cv] : Array Value)[2]? = some (.slice av j cv) from rfl)
  have g0 := (cell_of_row W4 w.heap.size 0 _ _ _ hq0).trans (show (#[.bool false, .int .i64 0, .slice none 0 0] : Array Value)[0]? = some (.bool false) from rfl)
  have g1 := (cell_of_row W4 w.heap.size 1 _ _ _ hq0).trans (show (#[.bool false, .int .i64 0, .slice none 0 0] : Array Value)[1]? = some (.int .i64 0) from rfl)
  have g2 := (cell_of_row W4 w.heap.size 2 _ _ _ hq0).trans (show (#[.bool false, .int .i64 0, .slice none 0 0] : Array Value)[2]? = some (.slice none 0 0) from rfl)
  have f0 := frozen_of_row W4 w.heap.size 0 _ _ hq0
  have f1 := frozen_of_row W4 w.heap.size 1 _ _ hq0
  have f2 := frozen_of_row W4 w.heap.size 2 _ _ hq0
  have HQ0 := Hid.mk' hq0
  by_cases hbd : (rds L (rInt L s).2 j).2.bad = 0
  · have hj2 := hj2 hbd
    obtain rfl : j = (-c).toNat := by omega
    have hX : (rds L (rInt L s).2 ((-c).toNat)).1.length = (-c).toNat := rds_len _ _ _
    have sc : SC W4 W2.heap.size 0 true (-c) av cv (rds L (rInt L s).2 ((-c).toNat)).1 := by
      obtain ⟨a1, c1, e1, _, hv, _⟩ := ni.own.open
      simp only [Value.slice.injEq] at e1
      obtain ⟨rfl, _, rfl⟩ := e1
      exact ⟨d0, d1, by rw [hX]; exact d2, vals_nums hv⟩
    have fr4 := (stp_fin HH.out.lt HHa.out ONX.out ni ni.rd.on (F1.refl _ _)).2.1
    have HFi := Hid.mk' (fun m => fits_any W2.heap.size 0 true (-c) av cv (rds L (rInt L s).2 ((-c).toNat)).1 r ah nA cA prev (W4.drewN m) (sc.drew m) (by omega) (by omega) ((hA.fr fr4).fr (Fr.drew r W4 m)))
    rw [show decide ((rds L (rInt L s).2 ((-c).toNat)).2.bad ≠ 0) = false by simp [hbd]] at HST
    have HFl := Hid.mk' (fun m => rfail_any 21 (s.k : Int) (W4.drewN m) (ni.rd.drew m))
    by_cases hfi : fitsB true (rds L (rInt L s).2 ((-c).toNat)).1 prev = true
    · rw [hfi] at HFi
      have HPP : Hid (PS L most s prev true (-c) (rds L (rInt L s).2 ((-c).toNat)).1 (rds L (rInt L s).2 ((-c).toNat)).2) := .inr ⟨by rw [HPS.out]; exact hbd, HP1.out, HP2.out, HP3.out, .inl ⟨hfi, HPS.out.symm⟩⟩
      clear ni HRN hq0 sc fr4 hfi HFl
      go_wp2_with (first
        | (go_at_call 33; refine HST.out.mono ?_; rintro e W5 ⟨rfl, m5, rfl⟩)
        | (go_at_call 50; refine (HFi.out _).mono ?_; rintro e W6 ⟨rfl, m6, rfl⟩)
        | fail)
      first
        | exact bodyPost_ret (res34 _ _ w.heap.size _ _ _ rfl (q0_set _ _ _ HQ0.out)) rfl (stp_end HH.out.lt HHa.out ONX.out HNI.out (on_drew HNI.out.rd (m5 + m6)) ((((F1.refl _ _).set 0 _).set 1 _).set 2 _) HPP.out)
        | exact bodyPost_ret (res34 _ _ w.heap.size _ _ _ rfl (q0_set _ _ _ HQ0.out)) rfl (stp_end HH.out.lt HHa.out ONX.out HNI.out ((on_drew HNI.out.rd m5).drew m6) ((((F1.refl _ _).set 0 _).set 1 _).set 2 _) HPP.out)
    · have hfi : fitsB true (rds L (rInt L s).2 ((-c).toNat)).1 prev = false := by simpa using hfi
      rw [hfi] at HFi
      have hfl : (rds L (rInt L s).2 ((-c).toNat)).2.fl 21 s.k = ⟨(rds L (rInt L s).2 ((-c).toNat)).2.k, 21, s.k⟩ := St.fl_new _ _ _ hbd (by decide)
      have HPP : Hid (PS L most s prev true (-c) (rds L (rInt L s).2 ((-c).toNat)).1 ((rds L (rInt L s).2 ((-c).toNat)).2.fl 21 s.k)) := .inr ⟨by rw [HPS.out]; exact hbd, HP1.out, HP2.out, HP3.out, .inr ⟨hfi, by rw [hfl], by rw [hfl]⟩⟩
      clear hfl
      have HQF : Hid (∀ m W, On (W4.drewN m) W 90 r a cap L ((rds L (rInt L s).2 ((-c).toNat)).2.fl 21 s.k) → W.heap[w.heap.size]? = W4.heap[w.heap.size]? ∧ W.heap[W2.heap.size]? = W4.heap[W2.heap.size]?) := fun m W on => ⟨on.2.block w.heap.size (by have := (Array.getElem?_eq_some_iff.1 hq0).1; exact this) (by omega), on.2.block W2.heap.size (by have := (Array.getElem?_eq_some_iff.1 ni.row).1; exact this) (by have := ONX.out.2.size; simp at this; omega)⟩
      have HRow := Hid.mk' ni.row
      clear ni HRN sc fr4 hfi
      go_wp2_with (first
        | (go_at_call 33; refine HST.out.mono ?_; rintro e W5 ⟨rfl, m5, rfl⟩)
        | (go_at_call 50; refine (HFi.out _).mono ?_; rintro e W6 ⟨rfl, m6, rfl⟩)
        | (go_at_call 35; refine (HFl.out _).mono ?_)
        | fail)
      rintro e W7 ⟨rfl, on7⟩
      obtain ⟨b1, b2⟩ := HQF.out _ _ on7
      have ON7 := Hid.mk' on7
      have hq7 := b1.trans HQ0.out
      have hr7 := b2.trans HRow.out
      clear d0 d1 d2 g0 g1 g2 f0 f1 f2 on7 b1 b2
      have d0 := (cell_of_row W7 W2.heap.size 0 _ _ _ hr7).trans (show (#[.bool true, .int .i64 (-c), .slice av ((-c).toNat) cv] : Array Value)[0]? = some (.bool true) from rfl)
      have d1 := (cell_of_row W7 W2.heap.size 1 _ _ _ hr7).trans (show (#[.bool true, .int .i64 (-c), .slice av ((-c).toNat) cv] : Array Value)[1]? = some (.int .i64 (-c)) from rfl)
      have d2 := (cell_of_row W7 W2.heap.size 2 _ _ _ hr7).trans (show (#[.bool true, .int .i64 (-c), .slice av ((-c).toNat) cv] : Array Value)[2]? = some (.slice av ((-c).toNat) cv) from rfl)
      have g0 := (cell_of_row W7 w.heap.size 0 _ _ _ hq7).trans (show (#[.bool false, .int .i64 0, .slice none 0 0] : Array Value)[0]? = some (.bool false) from rfl)
      have g1 := (cell_of_row W7 w.heap.size 1 _ _ _ hq7).trans (show (#[.bool false, .int .i64 0, .slice none 0 0] : Array Value)[1]? = some (.int .i64 0) from rfl)
      have g2 := (cell_of_row W7 w.heap.size 2 _ _ _ hq7).trans (show (#[.bool false, .int .i64 0, .slice none 0 0] : Array Value)[2]? = some (.slice none 0 0) from rfl)
      have f0 := frozen_of_row W7 w.heap.size 0 _ _ hq7
      have f1 := frozen_of_row W7 w.heap.size 1 _ _ hq7
      have f2 := frozen_of_row W7 w.heap.size 2 _ _ hq7
      have HQ7 := Hid.mk' hq7
      clear hq7 hr7 hq0
      go_wp2
      first
        | exact bodyPost_ret (res34 _ _ w.heap.size _ _ _ rfl (q0_set _ _ _ HQ7.out)) rfl (stp_end HH.out.lt HHa.out ONX.out HNI.out ((on_drew HNI.out.rd _).trans ON7.out) ((((F1.refl _ _).set 0 _).set 1 _).set 2 _) HPP.out)
        | exact bodyPost_ret (res34 _ _ w.heap.size _ _ _ rfl (q0_set _ _ _ HQ7.out)) rfl (stp_end HH.out.lt HHa.out ONX.out HNI.out (((on_drew HNI.out.rd m5).drew m6).trans ON7.out) ((((F1.refl _ _).set 0 _).set 1 _).set 2 _) HPP.out)
  · have hst2 : (rds L (rInt L s).2 ((-c).toNat)).2 = (rds L (rInt L s).2 j).2 := by
      have := rds_stay (L := L) (s := (rInt L s).2) (j := j) hbd ((-c).toNat - j)
      rwa [show j + ((-c).toNat - j) = (-c).toNat by omega] at this
    have HPP : Hid (PS L most s prev true (-c) (rds L (rInt L s).2 j).1 (rds L (rInt L s).2 j).2) := .inl ⟨by rw [HPS.out, hst2]; exact hbd, by rw [HPS.out, hst2], by rw [HPS.out, hst2]⟩
    rw [show decide ((rds L (rInt L s).2 j).2.bad ≠ 0) = true by simpa using hbd] at HST
    clear ni HRN hq0 hst2 hbd
    go_wp2_with (first
      | (go_at_call 33; refine HST.out.mono ?_; rintro e W5 ⟨rfl, m5, rfl⟩)
      | fail)
    exact bodyPost_ret (res34 _ _ w.heap.size _ _ _ rfl (q0_set _ _ _ HQ0.out)) rfl (stp_end HH.out.lt HHa.out ONX.out HNI.out (on_drew HNI.out.rd m5) ((((F1.refl _ _).set 0 _).set 1 _).set 2 _) HPP.out)
theorem stretch_any (most : Nat) (ah : Option Addr) (nA cA : Nat) (prev : Option (Bool × Nat)) (w : World) (h : RD w 90 r a cap L s) (ha : ∀ ad, a = some ad → ad.block < w.heap.size) (hm : most ≤ 17592186044416) (hA : AH w r ah nA prev) :
    Calls Tryd.prog 34 #[.pointer (some ⟨r, 0, none⟩), .int .i64 (most : Int), .slice ah nA cA] w fun e w' => StP w w' r a cap L most s prev e := by
  have hrng := rInt_rng L s h.at_le
  by_cases h0 : (rInt L s).1 = 0
  · exact stretch_0 most ah nA cA prev w h ha hm hA h0
  by_cases h1 : (rInt L s).1 = 1
  · exact stretch_1 most ah nA cA prev w h ha hm hA h1
  by_cases h2 : (most : Int) < (rInt L s).1
  · exact stretch_B1 most ah nA cA prev w h ha hm hA h2 h1
  by_cases h3 : (rInt L s).1 < -(most : Int)
  · by_cases h4 : (rInt L s).1 = -9223372036854775808
    · exact stretch_B3 most ah nA cA prev w h ha hm hA h3 h4
    · exact stretch_B2 most ah nA cA prev w h ha hm hA h3 (by omega)
  by_cases h5 : 0 < (rInt L s).1
  · exact stretch_C1 most ah nA cA prev w h ha hm hA (by omega) (by omega)
  · exact stretch_C2 most ah nA cA prev w h ha hm hA (by omega) (by omega)
end Go.Proofs.YtphpaaajfcbafaaDoor.K
