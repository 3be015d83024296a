import Derived.Test.YtkinjcblngkeiaaDoorRk
import Derived.Test.YtkinjcblngkeiaaDoorKm
namespace Go.Proofs.YtkinjcblngkeiaaDoor
open Go.RowKit
set_option linter.unusedVariables false
set_option linter.unusedSimpArgs false

/-- The law's state: both Readers, what was handed in, and what was there. -/
structure MS (w W : World) (g r q : Nat) (a1 : Option Addr) (c1 : Nat) (a2 : Option Addr) (c2 : Nat) (L : List UInt8) (s1 s2 : St) : Prop where
  r1 : RD W 69 r a1 c1 L s1
  r2 : RD W 71 q a2 c2 L s2
  bel : Below w.heap.size w W
  hg : W.heap[g]? = some (.cells (bs (L ++ marks)) 5 (0, 0))
  lr : w.heap.size ≤ r
  lq : w.heap.size ≤ q
  n1 : r ≠ q
  n2 : g ≠ r
  n3 : g ≠ q
  p1 : Plain a1 q
  p2 : Plain a2 r
section
variable {w W : World} {g r q : Nat} {a1 : Option Addr} {c1 : Nat} {a2 : Option Addr} {c2 : Nat} {L : List UInt8} {s1 s2 : St}
theorem MS.on1 (h : MS w W g r q a1 c1 a2 c2 L s1 s2) {W' : World} {s' : St} (o : On W W' 69 r a1 c1 L s') : MS w W' g r q a1 c1 a2 c2 L s' s2 :=
  ⟨o.1, h.r2.fr o.2 (fun e => h.n1 e.symm) h.p2, h.bel.trans (o.2.below _ h.lr h.bel.size), by rw [o.2.block _ (Array.getElem?_eq_some_iff.1 h.hg).1 h.n2]; exact h.hg, h.lr, h.lq, h.n1, h.n2, h.n3, h.p1, h.p2⟩
theorem MS.on2 (h : MS w W g r q a1 c1 a2 c2 L s1 s2) {W' : World} {s' : St} (o : On W W' 71 q a2 c2 L s') : MS w W' g r q a1 c1 a2 c2 L s1 s' :=
  ⟨h.r1.fr o.2 h.n1 h.p1, o.1, h.bel.trans (o.2.below _ h.lq h.bel.size), by rw [o.2.block _ (Array.getElem?_eq_some_iff.1 h.hg).1 h.n3]; exact h.hg, h.lr, h.lq, h.n1, h.n2, h.n3, h.p1, h.p2⟩
theorem MS.below (h : MS w W g r q a1 c1 a2 c2 L s1 s2) {W' : World} (b : Below W.heap.size W W') : MS w W' g r q a1 c1 a2 c2 L s1 s2 :=
  ⟨h.r1.below b, h.r2.below b, h.bel.trans (b.mono h.bel.size), by rw [b.block _ (Array.getElem?_eq_some_iff.1 h.hg).1]; exact h.hg, h.lr, h.lq, h.n1, h.n2, h.n3, h.p1, h.p2⟩
theorem MS.drew (h : MS w W g r q a1 c1 a2 c2 L s1 s2) (m : Nat) : MS w (W.drewN m) g r q a1 c1 a2 c2 L s1 s2 := h.below (below_drewN (Below.refl _ _) m)
end
/-- The value's block. -/
def VBl (W : World) (vb : Nat) (k n : Int) (f : Nat) (t : ByteArray) : Prop := W.heap[vb]? = some (.cells #[.int .u8 k, .int .i64 n, .float .f64 f, .string t] 34 (0, 0))
theorem VBl.cells {W : World} {vb : Nat} {k n : Int} {f : Nat} {t : ByteArray} (h : VBl W vb k n f t) : W.cell? ⟨vb, 0, none⟩ = some (.int .u8 k) ∧ W.cell? ⟨vb, 1, none⟩ = some (.int .i64 n) ∧ W.cell? ⟨vb, 2, none⟩ = some (.float .f64 f) ∧ W.cell? ⟨vb, 3, none⟩ = some (.string t) :=
  ⟨(cell_of_row W vb 0 _ _ _ h).trans rfl, (cell_of_row W vb 1 _ _ _ h).trans rfl, (cell_of_row W vb 2 _ _ _ h).trans rfl, (cell_of_row W vb 3 _ _ _ h).trans rfl⟩
theorem bel_row (W : World) (cs : Array Value) : Below W.heap.size W ((W.alloc (.cells Z34 34)).setRow W.heap.size cs) := below_setRow (bel_box W Z34 34) (Nat.le_refl _) cs
set_option maxRecDepth 100000 in
set_option maxHeartbeats 2000000 in
theorem reads_all (ad : Option Addr) (l : List UInt8) (cap : Nat) (times : Int) (w : World) (hb : Byt w ad l) (hl : l.length ≤ 140737488351232) (hN : NamesAt 0 w) (hT : Tabs w) (hw4 : 4 ≤ w.heap.size) :
    Calls Tryd.prog 4 #[.slice ad l.length cap, .int .i64 times] w fun e w' => e = .returned (.bool true) ∧ Below w.heap.size w w' := by
  have HH := Hid.mk' (hand_any ad l cap w hb hl)
  have HB := Hid.mk' hb
  have HNa := Hid.mk' (fun (wx : World) (b : Below w.heap.size w wx) => hN.below b)
  have HTa := Hid.mk' (fun (wx : World) (b : Below w.heap.size w wx) => hT.below b)
  clear hb hN hT
  go_enter Tryd.func4, Tryd.ntmps4
  go_wp2_with fail
  refine HH.out.mono ?_
  rintro e w1 ⟨rfl, hg, b1⟩
  have BO : Byt w1 (some ⟨w.heap.size, 0, none⟩) l := .inr ⟨w.heap.size, 0, rfl, fun j hj => by
    rw [Nat.zero_add, ← own_at l j hj]
    exact (cell_of_row w1 w.heap.size j _ _ _ hg).trans (bs_get _ j (by simp [marks]; omega))⟩
  have z1 : w.heap.size < w1.heap.size := (Array.getElem?_eq_some_iff.1 hg).1
  have HNW := Hid.mk' (new_any w.heap.size 0 l.length (l.length + 9) l w1 rfl hl BO)
  have HG := Hid.mk' hg
  have B1 := Hid.mk' b1
  clear hg b1 BO HH
  go_wp2_with fail
  refine HNW.out.mono ?_
  rintro e w2 ⟨r, a1, c1, rfl, rd1, lr, pa1, lr2, b2⟩
  have HQ := Hid.mk' (qnew_any ad l l.length cap w2 rfl (byt_below HB.out (B1.out.trans (b2.mono (by omega)))) hl)
  have HR1 := Hid.mk' rd1
  have HP1 := Hid.mk' pa1
  have B2 := Hid.mk' b2
  clear rd1 pa1 b2 HNW
  go_wp2_with fail
  refine HQ.out.mono ?_
  rintro e w3 ⟨q, a2, c2, rfl, rd2, lq, pa2, lq2, b3⟩
  have HMS : Hid (MS w w3 w.heap.size r q a1 c1 a2 c2 l ⟨0, 0, 0⟩ ⟨0, 0, 0⟩) := by
    have p1' := HP1.out
    have hg1 := HG.out
    refine ⟨HR1.out.below b3, rd2, B1.out.trans ((B2.out.mono (by omega)).trans (b3.mono (by omega))), ?_, by omega, by omega, by omega, by omega, by omega, fun x e => ⟨(HR1.out.plain x e).1, ?_⟩, fun x e => ⟨(rd2.plain x e).1, ?_⟩⟩
    · rw [b3.block _ (by omega), B2.out.block _ z1]; exact hg1
    · have := (p1' x e).2; omega
    · have := (pa2 x e).1; omega
  clear rd2 pa2 b3 HQ HR1 HP1 B2 B1 HG lr2 lq2
  have hr4 : 4 ≤ r := by omega
  have hq4 : 4 ≤ q := by have := HMS.out.lq; omega
  clear lr lq z1 hw4
  go_wp2
  go_loopw [8] (fun i wr => ∃ (j : Nat) (st : St), i = .int .i64 (j : Int) ∧ j ≤ l.length + 1 ∧ Hid (St.ok st) ∧ Hid (MS w wr w.heap.size r q a1 c1 a2 c2 l st st)) (fun i _ => l.length + 1 - (intOf i).toNat)
  case atStart => exact ⟨0, ⟨0, 0, 0⟩, rfl, by omega, fun _ => rfl, HMS⟩
  case round =>
    clear HMS
    obtain ⟨j, st, rfl, hj, HOK, HM⟩ := hrel
    by_cases hgo : (j : Int) < times ∧ j ≤ l.length
    · obtain ⟨h1, h2⟩ := hgo
      have h2' : (j : Int) ≤ (l.length : Int) := by omega
      have HOK2 := Hid.mk' (rRead_ok l HOK.out)
      have HRD := Hid.mk' (fun (wx : World) (m : MS w wx w.heap.size r q a1 c1 a2 c2 l st st) => read_any wx m.r1 (HNa.out _ m.bel) (HTa.out _ m.bel) hr4)
      have HQD := Hid.mk' (fun (wx : World) (s1 : St) (m : MS w wx w.heap.size r q a1 c1 a2 c2 l s1 st) => qread_any wx m.r2 (HNa.out _ m.bel) (HTa.out _ m.bel) hq4)
      obtain ⟨k, n, f, t, hV⟩ := rRead_shape l st
      rw [hV] at HRD HQD
      generalize (rRead l st).2 = st' at *
      clear hV
      have HSM := Hid.mk' (fun (wx : World) => vsame_any k n f t wx)
      go_wp2_with fail
      refine (HRD.out _ HM.out).mono ?_
      rintro e w4 ⟨rfl, ho⟩
      have M4 := Hid.mk' (HM.out.on1 ho)
      have p1 : (w4.alloc (.cells Z34 34)).heap[w4.heap.size]? = some (.cells Z34 34 (0, 0)) := heap_alloc_new _ _
      have M5 := Hid.mk' (M4.out.below (bel_row w4 #[.int .u8 k, .int .i64 n, .float .f64 f, .string t]))
      have V5 : Hid (VBl ((w4.alloc (.cells Z34 34)).setRow w4.heap.size #[.int .u8 k, .int .i64 n, .float .f64 f, .string t]) w4.heap.size k n f t) := setRow_heap _ _ _ _ _ _ p1
      have lvb : w4.heap.size ≠ q := by have := M4.out.r2.lt; omega
      have HQ18 : Hid (∀ wx, MS w wx w.heap.size r q a1 c1 a2 c2 l st' st ∧ VBl wx w4.heap.size k n f t → Calls Tryd.prog 18 #[.pointer (some ⟨q, 0, none⟩)] wx fun e w' => e = .returned (VV k n f t) ∧ (MS w w' w.heap.size r q a1 c1 a2 c2 l st' st' ∧ VBl w' w4.heap.size k n f t)) := fun wx hx => (HQD.out wx st' hx.1).mono fun e w' ho => ⟨ho.1, hx.1.on2 ho.2, by
        show w'.heap[w4.heap.size]? = _
        rw [ho.2.2.block _ (Array.getElem?_eq_some_iff.1 hx.2).1 lvb]
        exact hx.2⟩
      have H17 : Hid (∀ wx, MS w wx w.heap.size r q a1 c1 a2 c2 l st' st' ∧ VBl wx w4.heap.size k n f t → Calls Tryd.prog 17 #[.agg #[.int .u8 k, .int .i64 n, .float .f64 f, .string t], VV k n f t] wx fun e w' => e = .returned (.bool true) ∧ (MS w w' w.heap.size r q a1 c1 a2 c2 l st' st' ∧ VBl w' w4.heap.size k n f t)) := fun wx hx => (HSM.out wx).mono fun e w' ho => ⟨ho.1, hx.1.below ho.2, by
        show w'.heap[w4.heap.size]? = _
        rw [ho.2.block _ (Array.getElem?_eq_some_iff.1 hx.2).1]
        exact hx.2⟩
      clear ho HRD HM M4 HQD HSM lvb
      go_wp2_with (first | (refine wpList_store_row rfl 34 (.tmp 9) (.tmp 36) rfl w4.heap.size #[.int .u8 k, .int .i64 n, .float .f64 f, .string t] rfl rfl 34 _ p1 (inf34 _ _ _ _) rfl (one34 _ _ _ _) ?_) | fail)
      clear p1
      generalize (w4.alloc (.cells Z34 34)).setRow w4.heap.size #[.int .u8 k, .int .i64 n, .float .f64 f, .string t] = W5 at *
      have s5 := V5.out.cells
      go_region_held3 (fun w' => w'.cell? ⟨w4.heap.size, 0, none⟩ = some (.int .u8 k) ∧ w'.cell? ⟨w4.heap.size, 1, none⟩ = some (.int .i64 n) ∧ w'.cell? ⟨w4.heap.size, 2, none⟩ = some (.float .f64 f) ∧ w'.cell? ⟨w4.heap.size, 3, none⟩ = some (.string t)) (first | assumption | go_keep) (first
        | (go_at_call 18; refine (HQ18.out _ ?_).mono ?_; (first | exact ⟨M5.out, V5.out⟩ | exact ⟨M5.out.drew _, V5.out⟩ | exact ⟨(M5.out.drew _).drew 1, V5.out⟩); rintro e w6 ⟨rfl, m6, v6⟩; have s6 := v6.cells; have M6 := Hid.mk' m6; have V6 := Hid.mk' v6; clear m6 v6)
        | (go_at_call 17; refine (H17.out _ ?_).mono ?_; (first | exact ⟨M6.out, V6.out⟩ | exact ⟨M6.out.drew _, V6.out⟩ | exact ⟨(M6.out.drew _).drew 1, V6.out⟩); rintro e w7 ⟨rfl, m7, v7⟩; have s7 := v7.cells; have M7 := Hid.mk' m7; clear m7 v7)
        | fail)
      clear H17 HQ18 M5 V5 M6 V6 s5 s6 s7
      have HF1 := Hid.mk' (fault_any w7 M7.out.r1)
      go_wp2_with fail
      refine HF1.out.mono ?_
      rintro e w8 ⟨rfl, m8, hw8⟩
      have M8 : Hid (MS w w8 w.heap.size r q a1 c1 a2 c2 l st' st') := by show MS _ _ _ _ _ _ _ _ _ _ _ _; rw [hw8]; exact M7.out.drew m8
      have HF2 := Hid.mk' (qfault_any w8 M8.out.r2)
      clear hw8 M7 HF1
      go_wp2_with fail
      refine HF2.out.mono ?_
      rintro e w9 ⟨rfl, m9, hw9⟩
      have M9 : Hid (MS w w9 w.heap.size r q a1 c1 a2 c2 l st' st') := by show MS _ _ _ _ _ _ _ _ _ _ _ _; rw [hw9]; exact M8.out.drew m9
      clear hw9 M8 HF2
      have HA1 := Hid.mk' (rat_any w9 M9.out.r1)
      have HA2 := Hid.mk' (qat_any w9 M9.out.r2)
      by_cases hb : st'.bad = 0
      · go_wp2_with (first | (go_at_call 21; refine HA1.out.mono ?_; rintro e wx ⟨rfl, hwx⟩; subst hwx) | (go_at_call 22; refine HA2.out.mono ?_; rintro e wy ⟨rfl, hwy⟩; subst hwy) | fail)
        exact ⟨⟨j + 1, st', by go_num, by omega, HOK2, M9⟩, by simp [intOf]; omega⟩
      · have hb' : (st'.bad == 0) = false := by simpa using hb
        go_wp2_with fail
        exact ⟨⟨j + 1, st', by go_num, by omega, HOK2, M9⟩, by simp [intOf]; omega⟩
    · have HDN : Hid (∀ wx, MS w wx w.heap.size r q a1 c1 a2 c2 l st st → Calls Tryd.prog 23 #[.pointer (some ⟨r, 0, none⟩)] wx fun e w' => e = .returned (.tuple #[.int .i64 (if st.bad = 0 ∧ st.k < l.length then 22 else st.bad), .int .i64 (if st.bad = 0 ∧ st.k < l.length then (st.k : Int) else st.wh)]) ∧ MS w w' w.heap.size r q a1 c1 a2 c2 l st st) := fun wx m => (rdone_any wx m.r1).mono fun e w' ⟨h1, m', h2⟩ => ⟨by rw [h1, done_e, done_p l HOK.out], by rw [h2]; exact m.drew m'⟩
      have HQN : Hid (∀ wx, MS w wx w.heap.size r q a1 c1 a2 c2 l st st → Calls Tryd.prog 24 #[.pointer (some ⟨q, 0, none⟩)] wx fun e w' => e = .returned (.tuple #[.int .i64 (if st.bad = 0 ∧ st.k < l.length then 22 else st.bad), .int .i64 (if st.bad = 0 ∧ st.k < l.length then (st.k : Int) else st.wh)]) ∧ MS w w' w.heap.size r q a1 c1 a2 c2 l st st) := fun wx m => (qdone_any wx m.r2).mono fun e w' h => ⟨h.1, m.on2 h.2⟩
      have HKP : Hid (∀ wx, MS w wx w.heap.size r q a1 c1 a2 c2 l st st → Calls Tryd.prog 25 #[.slice (some ⟨w.heap.size, 0, none⟩) l.length (l.length + 9), .slice ad l.length cap] wx fun e w' => e = .returned (.bool true) ∧ MS w w' w.heap.size r q a1 c1 a2 c2 l st st) := fun wx m => (kept_any w.heap.size ad l cap wx m.hg (byt_below HB.out m.bel) hl).mono fun e w' ⟨h1, m', h2⟩ => ⟨h1, by rw [h2]; exact m.drew m'⟩
      generalize (if st.bad = 0 ∧ st.k < l.length then (22 : Int) else st.bad) = E at *
      generalize (if st.bad = 0 ∧ st.k < l.length then (st.k : Int) else st.wh) = P at *
      have hend : ¬ (j : Int) < times ∨ (j : Int) < times ∧ ¬ (j : Int) ≤ (l.length : Int) := by omega
      rcases hend with he | ⟨he1, he2⟩
      · go_wp2_with fail
        refine (HDN.out _ HM.out).mono ?_
        rintro e w5 ⟨rfl, m5⟩
        have M5 := Hid.mk' m5
        clear m5
        go_wp2_with fail
        refine (HQN.out _ M5.out).mono ?_
        rintro e w6 ⟨rfl, m6⟩
        have M6 := Hid.mk' m6
        clear m6
        go_wp2_with (first | (go_at_call 25; refine (HKP.out _ M6.out).mono ?_; rintro e w7 ⟨rfl, m7⟩; have M7 := Hid.mk' m7; clear m7) | fail)
        go_ret
        exact ⟨rfl, M7.out.bel⟩
      · go_wp2_with fail
        refine (HDN.out _ HM.out).mono ?_
        rintro e w5 ⟨rfl, m5⟩
        have M5 := Hid.mk' m5
        clear m5
        go_wp2_with fail
        refine (HQN.out _ M5.out).mono ?_
        rintro e w6 ⟨rfl, m6⟩
        have M6 := Hid.mk' m6
        clear m6
        go_wp2_with (first | (go_at_call 25; refine (HKP.out _ M6.out).mono ?_; rintro e w7 ⟨rfl, m7⟩; have M7 := Hid.mk' m7; clear m7) | fail)
        go_ret
        exact ⟨rfl, M7.out.bel⟩
end Go.Proofs.YtkinjcblngkeiaaDoor
