import Derived.Test.YtkinjcblngkeiaaDoorWn
import Derived.Test.YtkinjcblngkeiaaDoorKm
namespace Go.Proofs.YtkinjcblngkeiaaDoor
open Go.RowKit
set_option linter.unusedVariables false
set_option linter.unusedSimpArgs false

theorem bel_two (w : World) (c d : Array Value) (t u : TypeId) : Below w.heap.size w ((w.alloc (.cells c t)).alloc (.cells d u)) := ((Below.refl _ _).alloc (Nat.le_refl _) _).alloc (by simp) _
/-- A value as four parts. -/
structure VR where
  k : Int
  n : Int
  f : Nat
  s : ByteArray
def VR.ok (v : VR) : Prop := 0 ≤ v.k ∧ -9223372036854775808 ≤ v.n ∧ v.n < 9223372036854775808 ∧ v.f < 18446744073709551616 ∧ v.s.size ≤ 9223372036854775807
/-- What stands behind the first values. -/
def stepW (x : List UInt8 × Int) (v : VR) : List UInt8 × Int := (wM x.1 x.2 v.k v.n v.f v.s, wE x.2 v.k v.n v.f v.s)
theorem WS.frw {w w' : World} {T : TypeId} {p q : Nat} {g g2 : Option Nat} {M : List UInt8} {e : Int} (h : WS w T q g2 M e) (f : FrW p g w w') (h1 : q ≠ p) (h2 : some q ≠ g) (h3 : ∀ k, g2 = some k → k ≠ p ∧ some k ≠ g) : WS w' T q g2 M e := by
  obtain ⟨v, hq, own, hg⟩ := h.ex
  refine ⟨⟨v, by rw [f.block q (Array.getElem?_eq_some_iff.1 hq).1 h1 h2]; exact hq, ⟨own.1, ?_⟩, hg⟩, h.ne⟩
  rcases own.2 with hn | ⟨gg, cap, cur, rfl, hbg, hgg, rest⟩
  · exact .inl hn
  · obtain ⟨h4, h5⟩ := h3 gg (by rw [← hg]; rfl)
    exact .inr ⟨gg, cap, cur, rfl, hbg, by rw [f.block gg (Array.getElem?_eq_some_iff.1 hgg).1 h4 h5]; exact hgg, rest⟩
/-- Both Writers, and what was there. -/
structure MW (w W : World) (p m : Nat) (g1 g2 : Option Nat) (M1 : List UInt8) (e1 : Int) (M2 : List UInt8) (e2 : Int) : Prop where
  s1 : WS W 26 p g1 M1 e1
  s2 : WS W 28 m g2 M2 e2
  bel : Below w.heap.size w W
  lp : w.heap.size ≤ p
  lm : w.heap.size ≤ m
  l1 : ∀ k, g1 = some k → w.heap.size ≤ k
  l2 : ∀ k, g2 = some k → w.heap.size ≤ k
  ne : p ≠ m
  n1 : g1 ≠ some m
  n2 : g2 ≠ some p
  n3 : ∀ k, g1 = some k → g2 ≠ some k
section
variable {w W : World} {p m : Nat} {g1 g2 : Option Nat} {M1 M2 : List UInt8} {e1 e2 : Int}
theorem MW.frw1 (h : MW w W p m g1 g2 M1 e1 M2 e2) {W' : World} (f : FrW p g1 W W') : Below w.heap.size w W' :=
  h.bel.trans ⟨f.os, f.tape, f.output, f.size, fun k hk => f.block k (by have := h.bel.size; omega) (by have := h.lp; omega) (fun e => by have := h.l1 k e.symm; omega)⟩
theorem MW.frw2 (h : MW w W p m g1 g2 M1 e1 M2 e2) {W' : World} (f : FrW m g2 W W') : Below w.heap.size w W' :=
  h.bel.trans ⟨f.os, f.tape, f.output, f.size, fun k hk => f.block k (by have := h.bel.size; omega) (by have := h.lm; omega) (fun e => by have := h.l2 k e.symm; omega)⟩
theorem MW.on1 (h : MW w W p m g1 g2 M1 e1 M2 e2) {W' : World} {M' : List UInt8} {e' : Int} (o : Wr W W' 26 p g1 M' e') : ∃ g', MW w W' p m g' g2 M' e' M2 e2 := by
  obtain ⟨g', ws, fr, nw⟩ := o
  have hz := h.bel.size
  have lm := h.s2.lt
  refine ⟨g', ws, h.s2.frw fr (fun e => h.ne e.symm) (fun e => h.n1 e.symm) (fun k hk => ⟨fun e => h.n2 (by rw [hk, e]), fun e => h.n3 k e.symm hk⟩), h.frw1 fr, h.lp, h.lm, fun k hk => ?_, h.l2, h.ne, ?_, h.n2, fun k hk => ?_⟩
  · rcases nw with e | ⟨x, e, hx⟩
    · exact h.l1 k (e ▸ hk)
    · rw [e] at hk; cases hk; omega
  · rcases nw with e | ⟨x, e, hx⟩
    · rw [e]; exact h.n1
    · rw [e]; intro hh; cases hh; omega
  · rcases nw with e | ⟨x, e, hx⟩
    · exact h.n3 k (e ▸ hk)
    · rw [e] at hk; cases hk
      intro hh
      have := h.s2.glt hh
      omega
theorem MW.on2 (h : MW w W p m g1 g2 M1 e1 M2 e2) {W' : World} {M' : List UInt8} {e' : Int} (o : Wr W W' 28 m g2 M' e') : ∃ g', MW w W' p m g1 g' M1 e1 M' e' := by
  obtain ⟨g', ws, fr, nw⟩ := o
  have hz := h.bel.size
  have lp := h.s1.lt
  refine ⟨g', h.s1.frw fr h.ne (fun e => h.n2 e.symm) (fun k hk => ⟨fun e => h.n1 (by rw [hk, e]), fun e => h.n3 k hk e.symm⟩), ws, h.frw2 fr, h.lp, h.lm, h.l1, fun k hk => ?_, h.ne, h.n1, ?_, fun k hk => ?_⟩
  · rcases nw with e | ⟨x, e, hx⟩
    · exact h.l2 k (e ▸ hk)
    · rw [e] at hk; cases hk; omega
  · rcases nw with e | ⟨x, e, hx⟩
    · rw [e]; exact h.n2
    · rw [e]; intro hh; cases hh; omega
  · rcases nw with e | ⟨x, e, hx⟩
    · rw [e]; exact h.n3 k hk
    · rw [e]; intro hh; cases hh
      have := h.s1.glt hk
      omega
theorem MW.below (h : MW w W p m g1 g2 M1 e1 M2 e2) {W' : World} (b : Below W.heap.size W W') : MW w W' p m g1 g2 M1 e1 M2 e2 :=
  ⟨h.s1.below b, h.s2.below b, h.bel.trans (b.mono h.bel.size), h.lp, h.lm, h.l1, h.l2, h.ne, h.n1, h.n2, h.n3⟩
end
/-- The values lie in a row. -/
def VAt (W : World) (b off : Nat) (vs : List VR) : Prop := ∀ i v, vs[i]? = some v → W.cell? ⟨b, off + i * 4, none⟩ = some (.int .u8 v.k) ∧ W.cell? ⟨b, off + i * 4 + 1, none⟩ = some (.int .i64 v.n) ∧ W.cell? ⟨b, off + i * 4 + 2, none⟩ = some (.float .f64 v.f) ∧ W.cell? ⟨b, off + i * 4 + 3, none⟩ = some (.string v.s)
theorem VAt.below {w W : World} {b off : Nat} {vs : List VR} (h : VAt w b off vs) (hb : Below w.heap.size w W) : VAt W b off vs := fun i v hv => by
  obtain ⟨h0, h1, h2, h3⟩ := h i v hv
  exact ⟨(hb.cell (p := ⟨b, off + i * 4, none⟩) (block_lt_of_cell h0)).trans h0, (hb.cell (p := ⟨b, off + i * 4 + 1, none⟩) (block_lt_of_cell h1)).trans h1, (hb.cell (p := ⟨b, off + i * 4 + 2, none⟩) (block_lt_of_cell h2)).trans h2, (hb.cell (p := ⟨b, off + i * 4 + 3, none⟩) (block_lt_of_cell h3)).trans h3⟩
set_option maxRecDepth 100000 in
set_option maxHeartbeats 2000000 in
theorem writes_all (b off : Nat) (vs : List VR) (cap : Nat) (a : Option Addr) (ha : 0 < vs.length → a = some ⟨b, off, none⟩) (w : World) (hv : VAt w b off vs) (hok : ∀ v ∈ vs, v.ok) (hl : vs.length ≤ 1048576) (hT : Tabs w) (hw4 : 4 ≤ w.heap.size) :
    Calls Tryd.prog 3 #[.slice a vs.length cap] w fun x w' => x = .returned (.bool true) ∧ Below w.heap.size w w' := by
  have HV := Hid.mk' (fun (wx : World) (bl : Below w.heap.size w wx) => hv.below bl)
  have HT := Hid.mk' (fun (wx : World) (bl : Below w.heap.size w wx) => hT.below bl)
  have HOKV := Hid.mk' hok
  have HM0 : Hid (MW w ((w.alloc (.cells #[.slice none 0 0, .int .i64 0] 26)).alloc (.cells #[.slice none 0 0, .int .i64 0] 28)) w.heap.size (w.heap.size + 1) none none [] 0 [] 0) := by
    have z : (w.alloc (.cells #[.slice none 0 0, .int .i64 0] 26)).heap.size = w.heap.size + 1 := by simp
    have e2 := ws_zero (w.alloc (.cells #[.slice none 0 0, .int .i64 0] 26)) 28
    rw [z] at e2
    exact ⟨(ws_zero w 26).below (bel_box _ _ _), e2, bel_two w _ _ _ _, Nat.le_refl _, by omega, fun k h => (by cases h), fun k h => (by cases h), by omega, by simp, by simp, fun k h => (by cases h)⟩
  clear hv hT hok
  go_enter Tryd.func3, Tryd.ntmps3
  go_wp2
  go_loopw [5] (fun i wr => ∃ (j : Nat) (g1 g2 : Option Nat) (M : List UInt8) (e : Int), i = .int .i64 (j : Int) ∧ j ≤ vs.length ∧ Hid (M.length ≤ j * 1100) ∧ Hid (MW w wr w.heap.size (w.heap.size + 1) g1 g2 M e M e)) (fun i _ => vs.length - (intOf i).toNat)
  case atStart => exact ⟨0, none, none, [], 0, rfl, by omega, by show 0 ≤ _; omega, HM0⟩
  case round =>
    clear HM0
    obtain ⟨j, g1, g2, M, e, rfl, hj, HL, HM⟩ := hrel
    by_cases hjl : j < vs.length
    · have hjl' : (j : Int) < (vs.length : Int) := by omega
      obtain ⟨v, hvj⟩ : ∃ v, vs[j]? = some v := ⟨vs[j], List.getElem?_eq_getElem hjl⟩
      obtain ⟨d0, d1, d2, d3⟩ := HV.out wr HM.out.bel j v hvj
      obtain rfl := ha (by omega)
      obtain ⟨o1, o2, o3, o4, o5⟩ := HOKV.out v (List.mem_of_getElem? hvj)
      obtain ⟨k, n, f, s⟩ := v
      simp only at d0 d1 d2 d3 o1 o2 o3 o4 o5
      have hM : M.length + 2000 ≤ 140737488355328 := by have := HL.out; omega
      have hlen := wM_len M e k n f s o2 o3
      have H1 := Hid.mk' (write_any k n f s o1 o2 o3 o4 o5 wr HM.out.s1 (HT.out _ HM.out.bel) hw4 (fun x hx => by have := HM.out.l1 x hx; omega) hM)
      have H2 : Hid (∀ wx g1' M' e', MW w wx w.heap.size (w.heap.size + 1) g1' g2 M' e' M e → Calls Tryd.prog 6 #[.pointer (some ⟨w.heap.size + 1, 0, none⟩), .agg #[.int .u8 k, .int .i64 n, .float .f64 f, .string s]] wx fun x w' => x = .returned (.tuple #[]) ∧ Wr wx w' 28 (w.heap.size + 1) g2 (wM M e k n f s) (wE e k n f s)) := fun wx g1' M' e' m => xwrite_any k n f s o1 o2 o3 o4 o5 wx m.s2 (HT.out _ m.bel) (by omega) (fun x hx => by have := m.l2 x hx; omega) hM
      have hL2 : Hid ((wM M e k n f s).length ≤ (j + 1) * 1100) := by show _ ≤ _; have := HL.out; omega
      generalize wM M e k n f s = M' at *
      generalize wE e k n f s = e' at *
      have HVj : Hid (∀ wx, Below w.heap.size w wx → wx.cell? ⟨b, off + j * 4, none⟩ = some (.int .u8 k) ∧ wx.cell? ⟨b, off + j * 4 + 1, none⟩ = some (.int .i64 n) ∧ wx.cell? ⟨b, off + j * 4 + 2, none⟩ = some (.float .f64 f) ∧ wx.cell? ⟨b, off + j * 4 + 3, none⟩ = some (.string s)) := fun wx bl => HV.out wx bl j _ hvj
      clear hvj hM hlen HL o1 o2 o3 o4 o5
      go_wp2_with fail
      refine H1.out.mono ?_
      rintro x w1 ⟨rfl, a1⟩
      obtain ⟨g1', m1⟩ := HM.out.on1 a1
      have A1 := Hid.mk' m1
      clear a1 m1 HM d0 d1 d2 d3 H1
      obtain ⟨d0, d1, d2, d3⟩ := HVj.out w1 A1.out.bel
      go_wp2_with fail
      refine (H2.out w1 g1' M' e' A1.out).mono ?_
      rintro x w2 ⟨rfl, a2⟩
      obtain ⟨g2', m2⟩ := A1.out.on2 a2
      have A2 := Hid.mk' m2
      clear a2 m2 A1 d0 d1 d2 d3 H2
      go_wp2
      exact ⟨⟨j + 1, g1', g2', M', e', by go_num, by omega, hL2, A2⟩, by simp [intOf]; omega⟩
    · have hjl' : ¬ (j : Int) < (vs.length : Int) := by omega
      have hM : M.length ≤ 1153433600 := by have := HL.out; omega
      have hdl : (dM M e).length ≤ 1153433600 := by unfold dM; split; exact hM; simp
      have H1 := Hid.mk' (wdone_any wr HM.out.s1 (by omega))
      have HX : Hid (∀ wx, MW w wx w.heap.size (w.heap.size + 1) g1 g2 M e M e → Calls Tryd.prog 8 #[.pointer (some ⟨w.heap.size + 1, 0, none⟩)] wx fun x w' => ∃ v, x = .returned (.tuple #[v, .int .i64 e]) ∧ OwnB w' 0 v (dM M e) ∧ Below wx.heap.size wx w') := fun wx m => xdone_any wx m.s2 (by omega)
      have HL1 : Hid (∀ wx, MW w wx w.heap.size (w.heap.size + 1) g1 g2 M e M e → Calls Tryd.prog 10 #[.pointer (some ⟨w.heap.size, 0, none⟩)] wx fun x w' => x = .returned (.int .i64 (M.length : Int)) ∧ w' = wx) := fun wx m => wlen_any wx m.s1
      have HL2 : Hid (∀ wx, MW w wx w.heap.size (w.heap.size + 1) g1 g2 M e M e → Calls Tryd.prog 11 #[.pointer (some ⟨w.heap.size + 1, 0, none⟩)] wx fun x w' => x = .returned (.int .i64 (M.length : Int)) ∧ w' = wx) := fun wx m => xlen_any wx m.s2
      have HFX : Hid (∀ wx, MW w wx w.heap.size (w.heap.size + 1) g1 g2 M e M e → Calls Tryd.prog 12 #[] wx fun x w' => x = .returned (.bool true) ∧ Below w.heap.size w w') := fun wx m => (fixed_any wx (HT.out _ m.bel) (by have := m.bel.size; omega)).mono fun x w' h => ⟨h.1, m.bel.trans (h.2.mono m.bel.size)⟩
      have hD : Hid (∃ D, dM M e = D) := ⟨_, rfl⟩
      clear HL
      generalize dM M e = D at *
      go_wp2_with fail
      refine H1.out.mono ?_
      rintro x w1 ⟨v1, rfl, own1, b1⟩
      have A1 := Hid.mk' (HM.out.below b1)
      have O1 := Hid.mk' own1
      clear own1 b1 HM H1
      go_wp2_with fail
      refine (HX.out w1 A1.out).mono ?_
      rintro x w2 ⟨v2, rfl, own2, b2⟩
      have A2 := Hid.mk' (A1.out.below b2)
      obtain ⟨x1, y1, rfl, _, by1, _⟩ := (O1.out.below b2).open
      obtain ⟨x2, y2, rfl, _, by2, _⟩ := own2.open
      have HSM : Hid (Calls Tryd.prog 9 #[.slice x1 D.length y1, .slice x2 D.length y2] w2 fun x w' => x = .returned (.bool true) ∧ MW w w' w.heap.size (w.heap.size + 1) g1 g2 M e M e) := (same_any x1 x2 D D.length y1 y2 w2 rfl by1 by2 (by omega)).mono fun x w' h => by
        obtain ⟨h1, m', h2⟩ := h
        exact ⟨h1, by rw [h2]; exact A2.out.below (below_drewN (Below.refl _ _) m')⟩
      clear own2 b2 A1 O1 by1 by2 A2 HX
      go_wp2_with (first
        | (go_at_call 9; refine HSM.out.mono ?_; rintro x w3 ⟨rfl, m3⟩; have A3 := Hid.mk' m3; clear m3)
        | (go_at_call 10; refine (HL1.out _ A3.out).mono ?_; rintro x w4 ⟨rfl, hw4'⟩; subst hw4')
        | (go_at_call 11; refine (HL2.out _ A3.out).mono ?_; rintro x w5 ⟨rfl, hw5'⟩; subst hw5')
        | (go_at_call 12; refine (HFX.out _ A3.out).mono ?_; rintro x w6 ⟨rfl, b6⟩; have B6 := Hid.mk' b6; clear b6)
        | fail)
      go_ret
      exact ⟨rfl, B6.out⟩
end Go.Proofs.YtkinjcblngkeiaaDoor
