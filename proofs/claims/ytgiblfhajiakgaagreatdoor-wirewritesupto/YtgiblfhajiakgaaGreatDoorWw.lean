import Derived.Test.YtgiblfhajiakgaaGreatDoorP4
import Derived.Test.YtgiblfhajiakgaaGreatDoorBkn
import Derived.Test.YtgiblfhajiakgaaGreatDoorP2
namespace Go.Proofs.YtgiblfhajiakgaaGreatDoor
open Go.RowKit
set_option linter.unusedVariables false
set_option linter.unusedSimpArgs false

theorem bel_two2 (w : World) (c d : Array Value) (t u : TypeId) : Below w.heap.size w ((w.alloc (.cells c t)).alloc (.cells d u)) := ((Below.refl _ _).alloc (Nat.le_refl _) _).alloc (by simp) _
namespace K
theorem own_keep {w w' : World} {base : Nat} {v : Value} {L : List UInt8} (h : OwnB w base v L) (hk : ∀ b, v.ownBlock = some b → w'.heap[b]? = w.heap[b]?) : OwnB w' base v L := by
  refine ⟨h.1, ?_⟩
  rcases h.2 with hn | ⟨g, cap, cur, rfl, hbg, hg, rest⟩
  · exact .inl hn
  · exact .inr ⟨g, cap, cur, rfl, hbg, (hk g rfl).trans hg, rest⟩
theorem own_base {w : World} {b b' : Nat} {v : Value} {L : List UInt8} (h : OwnB w b v L) (hb : b' ≤ b) : OwnB w b' v L := by
  refine ⟨h.1, ?_⟩
  rcases h.2 with hn | ⟨g, cap, cur, rfl, hbg, rest⟩
  · exact .inl hn
  · exact .inr ⟨g, cap, cur, rfl, Nat.le_trans hb hbg, rest⟩
theorem ws_keep {w w' : World} {T : TypeId} {p : Nat} {g : Option Nat} {M : List UInt8} {e : Int} (h : WS w T p g M e) (hp : w'.heap[p]? = w.heap[p]?) (hg : ∀ k, g = some k → w'.heap[k]? = w.heap[k]?) : WS w' T p g M e := by
  obtain ⟨v, h1, h2, h3⟩ := h.ex
  exact ⟨⟨v, hp.trans h1, own_keep h2 (fun b e => hg b (h3 ▸ e)), h3⟩, h.ne⟩
theorem ws_uniq {w : World} {T : TypeId} {p : Nat} {g g' : Option Nat} {M M' : List UInt8} {e e' : Int} (h : WS w T p g M e) (h' : WS w T p g' M' e') : g = g' := by
  obtain ⟨v, h1, _, h3⟩ := h.ex
  obtain ⟨v', h1', _, h3'⟩ := h'.ex
  rw [h1] at h1'
  simp at h1'
  rw [← h3, ← h3', h1'.1]
theorem own_frw {w w' : World} {base p : Nat} {g : Option Nat} {v : Value} {L : List UInt8} (h : OwnB w base v L) (f : FrW p g w w') (hp : p < base) (hg : ∀ k, g = some k → k < base) : OwnB w' base v L :=
  own_keep h (fun b e => by
    have := World.ownsRow.lt h b e
    exact f.block b this.2 (by omega) (fun e2 => by have := hg b e2.symm; omega))
theorem same_own {w : World} {b1 b2 : Nat} {a1 a2 : Option Addr} {c1 c2 : Nat} {L : List UInt8} (h1 : OwnB w b1 (.slice a1 L.length c1) L) (h2 : OwnB w b2 (.slice a2 L.length c2) L) (hl : L.length ≤ 140737488351232) :
    Calls Tryz.prog 12 #[.slice a1 L.length c1, .slice a2 L.length c2] w fun x w' => x = .returned (.bool true) ∧ Below w.heap.size w w' := by
  obtain ⟨x1, y1, e1, _, by1, _⟩ := h1.open
  obtain ⟨x2, y2, e2, _, by2, _⟩ := h2.open
  simp only [Value.slice.injEq] at e1 e2
  rw [← e1.1] at by1
  rw [← e2.1] at by2
  exact (same_any a1 a2 L L.length c1 c2 w rfl by1 by2 hl).mono fun x w' ⟨h, m, e⟩ => ⟨h, by rw [e]; exact below_drewN (Below.refl _ _) m⟩
end K
set_option maxRecDepth 100000 in
set_option maxHeartbeats 4000000 in
theorem writes_all (a1 : Option Addr) (l : List (Int × OpV)) (n c1 : Nat) (w : World) (hn : l.length = n) (hnn : n ≤ 1048576) (hr : Opw w a1 l) (hT : K.Tabs w) :
    Calls Tryz.prog 3 #[.slice a1 n c1] w fun e w' => e = .returned (.bool true) ∧ Below w.heap.size w w' := by
  have HL := K.Hid.mk' (K.live_any w hT)
  have HT := K.Hid.mk' hT
  have HN := K.Hid.mk' hn
  have HR := K.Hid.mk' hr
  clear hT hn hr
  go_enter Tryz.func3, Tryz.ntmps3
  go_wp2_with fail
  refine HL.out.mono ?_
  rintro e w1 ⟨rfl, b1⟩
  have hz1 := b1.size
  have HM0 : Hid (K.MW w ((w1.alloc (.cells #[.slice none 0 0, .int .i64 0] 28)).alloc (.cells #[.slice none 0 0, .int .i64 0] 31)) w1.heap.size (w1.heap.size + 1) none none [] 0 [] 0) := by
    have z : (w1.alloc (.cells #[.slice none 0 0, .int .i64 0] 28)).heap.size = w1.heap.size + 1 := by simp
    have e2 := K.ws_zero (w1.alloc (.cells #[.slice none 0 0, .int .i64 0] 28)) 31
    rw [z] at e2
    exact ⟨(K.ws_zero w1 28).below ((Below.refl _ _).alloc (Nat.le_refl _) _), e2, b1.trans ((bel_two2 w1 _ _ _ _).mono hz1), hz1, by omega, fun k h => (by cases h), fun k h => (by cases h), by omega, by simp, by simp, fun k h => (by cases h)⟩
  clear b1 HL
  go_wp2
  generalize ((w1.alloc (.cells #[.slice none 0 0, .int .i64 0] 28)).alloc (.cells #[.slice none 0 0, .int .i64 0] 31)) = W0 at *
  go_loopw [5] (fun i wr => ∃ (k : Nat) (g1 g2 : Option Nat) (M : List UInt8) (e : Int), i = .int .i64 (k : Int) ∧ k ≤ n ∧ Hid (M.length ≤ k * 33554500) ∧ Hid (K.MW w wr w1.heap.size (w1.heap.size + 1) g1 g2 M e M e)) (fun i _ => n - (intOf i).toNat)
  case atStart => exact ⟨0, none, none, [], 0, rfl, by omega, by show 0 ≤ _; omega, HM0⟩
  case round =>
    clear HM0
    obtain ⟨k, g1, g2, M, e, rfl, hk, HL, HM⟩ := hrel
    by_cases hkn : k < n
    · have hkn' : (k : Int) < (n : Int) := by omega
      obtain ⟨bl, off, kd, o, R, L, rfl, hmem, hra, ok, hbl⟩ := HR.out.at (i := k) (by rw [HN.out]; exact hkn)
      have hhO := ok.hh
      obtain ⟨D, hD, hDl⟩ := srt_ex L ok.l32
      have hM : M.length + 33555000 ≤ 140737488351232 := by
        have h1 := HL.out
        have h2 : k * 33554500 ≤ 1048576 * 33554500 := Nat.mul_le_mul_right _ (by omega)
        omega
      have hLn : (K.wA M e (eW kd o R D)).length ≤ (k + 1) * 33554500 := by
        have h1 := K.wA_len M e (eW kd o R D)
        have h2 := eW_len (kd := kd) ok hD hDl
        have h3 := HL.out
        rw [Nat.add_mul]
        omega
      have HL2 : Hid ((K.wA M e (eW kd o R D)).length ≤ (k + 1) * 33554500) := hLn
      have H1 : Hid (Calls Tryz.prog 6 #[.pointer (some ⟨w1.heap.size, 0, none⟩), .agg (o.c kd)] wr fun x w' => x = .returned (.bool true) ∧ K.Wr wr w' 28 w1.heap.size g1 (K.wA M e (eW kd o R D)) (K.fE e (fW kd o))) :=
        wop_any w kd o R L D ok hD hDl wr HM.out.bel HM.out.s1 HM.out.lp HM.out.l1 (HT.out.below HM.out.bel) hM
      have H2 : Hid (∀ wx g1' M' e', K.MW w wx w1.heap.size (w1.heap.size + 1) g1' g2 M' e' M e → Calls Tryz.prog 7 #[.pointer (some ⟨w1.heap.size + 1, 0, none⟩), .agg (o.c kd)] wx fun x w' => x = .returned (.tuple #[]) ∧ K.Wr wx w' 31 (w1.heap.size + 1) g2 (K.wA M e (eW kd o R D)) (K.fE e (fW kd o))) := fun wx g1' M' e' m =>
        xop_any w kd o R L D ok hD hDl wx m.bel m.s2 m.lm m.l2 hM
      have RA : Hid (∀ wx, Below w.heap.size w wx → wx.rangeAt bl (off + 42 * k) (o.c kd).toList) := fun wx b => rangeAt_below hra b hbl
      have OLn := K.Hid.mk' (oc_len o kd hhO)
      have ix := fun wx => indexOp bl off n c1 k wx hkn
      clear hra ok hbl hD hDl hmem hM hLn
      generalize K.wA M e (eW kd o R D) = M' at *
      generalize K.fE e (fW kd o) = e' at *
      obtain ⟨C, hC⟩ : ∃ C, C = o.c kd := ⟨_, rfl⟩
      rw [← hC] at RA OLn H1 H2
      clear hC hhO
      have R1 : Hid (wr.rangeAt bl (off + 42 * k) C.toList) := RA.out wr HM.out.bel
      go_wp2_with (first
        | (refine wpList_load_mid rfl 39 _ rfl bl (off + 42 * k) rfl C.toList _ R1.out Tryz.underlying39 rfl (by rw [OLn.out]; exact sizeOp) ?_; rw [show C.toList.toArray = C from rfl])
        | fail)
      refine H1.out.mono ?_
      rintro x w2 ⟨rfl, a2⟩
      obtain ⟨g1', m1⟩ := HM.out.on1 a2
      have A1 := K.Hid.mk' m1
      have R2 : Hid (w2.rangeAt bl (off + 42 * k) C.toList) := RA.out w2 m1.bel
      clear a2 m1 HM H1 R1 RA
      go_wp2_with (first
        | (refine wpList_load_mid rfl 39 _ rfl bl (off + 42 * k) rfl C.toList _ R2.out Tryz.underlying39 rfl (by rw [OLn.out]; exact sizeOp) ?_; rw [show C.toList.toArray = C from rfl])
        | fail)
      refine (H2.out w2 g1' M' e' A1.out).mono ?_
      rintro x w3 ⟨rfl, a3⟩
      obtain ⟨g2', m2⟩ := A1.out.on2 a3
      have A2 := K.Hid.mk' m2
      have L1 := K.Hid.mk' (K.wlen_own w3 m2.s1)
      have L2 := K.Hid.mk' (K.xlen_own w3 m2.s2)
      clear a3 m2 A1 H2 R2
      go_wp2_with fail
      refine L1.out.mono ?_
      rintro x w4 ⟨rfl, hw4⟩
      subst hw4
      go_wp2_with fail
      refine L2.out.mono ?_
      rintro x w5 ⟨rfl, hw5⟩
      subst hw5
      go_wp2
      exact ⟨⟨k + 1, g1', g2', M', e', by go_num, by omega, HL2, A2⟩, by simp [intOf]; omega⟩
    · obtain rfl : k = n := by omega
      have hM : M.length ≤ 140737488000000 := by
        have h1 := HL.out
        have h2 : k * 33554500 ≤ 1048576 * 33554500 := Nat.mul_le_mul_right _ (by omega)
        omega
      have hdl : (K.dM M e).length ≤ 140737488000000 := by unfold K.dM; split; exact hM; simp
      have hM2 : (K.wA M e [7]).length ≤ 140737488000001 := by have := K.wA_len M e [7]; simp at this; omega
      have hdl2 : (K.dM (K.wA M e [7]) e).length ≤ 140737488000001 := by unfold K.dM; split; exact hM2; simp
      have HM1 : Hid (M.length ≤ 140737488000000) := hM
      have HM2 : Hid ((K.wA M e [7]).length ≤ 140737488000001) := hM2
      obtain ⟨D, hD⟩ : ∃ D, K.dM M e = D := ⟨_, rfl⟩
      obtain ⟨E, hE⟩ : ∃ E, K.dM (K.wA M e [7]) e = E := ⟨_, rfl⟩
      have HD1 : Hid (D.length ≤ 140737488351232) := by show _ ≤ _; rw [← hD]; omega
      have HD2 : Hid (E.length ≤ 140737488351232) := by show _ ≤ _; rw [← hE]; omega
      have WD : Hid (∀ (wx : World) (g : Option Nat), K.WS wx 28 (w1.heap.size) g (M) e → Calls Tryz.prog 11 #[.pointer (some ⟨w1.heap.size, 0, none⟩)] wx fun x w' => ∃ v, x = .returned (.tuple #[v, .int .i64 e]) ∧ K.OwnB w' wx.heap.size v D ∧ Below wx.heap.size wx w') := fun wx g h => by rw [← hD]; exact K.wdone_own wx h (by omega)
      have XD : Hid (∀ (wx : World) (g : Option Nat), K.WS wx 31 (w1.heap.size + 1) g (M) e → Calls Tryz.prog 10 #[.pointer (some ⟨w1.heap.size + 1, 0, none⟩)] wx fun x w' => ∃ v, x = .returned (.tuple #[v, .int .i64 e]) ∧ K.OwnB w' wx.heap.size v D ∧ Below wx.heap.size wx w') := fun wx g h => by rw [← hD]; exact K.xdone_own wx h (by omega)
      have WE : Hid (∀ (wx : World) (g : Option Nat), K.WS wx 28 (w1.heap.size) g (K.wA M e [7]) e → Calls Tryz.prog 11 #[.pointer (some ⟨w1.heap.size, 0, none⟩)] wx fun x w' => ∃ v, x = .returned (.tuple #[v, .int .i64 e]) ∧ K.OwnB w' wx.heap.size v E ∧ Below wx.heap.size wx w') := fun wx g h => by rw [← hE]; exact K.wdone_own wx h (by omega)
      have XE : Hid (∀ (wx : World) (g : Option Nat), K.WS wx 31 (w1.heap.size + 1) g (K.wA M e [7]) e → Calls Tryz.prog 10 #[.pointer (some ⟨w1.heap.size + 1, 0, none⟩)] wx fun x w' => ∃ v, x = .returned (.tuple #[v, .int .i64 e]) ∧ K.OwnB w' wx.heap.size v E ∧ Below wx.heap.size wx w') := fun wx g h => by rw [← hE]; exact K.xdone_own wx h (by omega)
      obtain ⟨z, hz⟩ : ∃ z, z = wr.heap.size := ⟨_, rfl⟩
      have PZ : Hid (w1.heap.size + 1 < z ∧ (∀ k, g1 = some k → k < z) ∧ (∀ k, g2 = some k → k < z) ∧ w.heap.size ≤ z) := ⟨by rw [hz]; exact HM.out.s2.lt, fun k h => by rw [hz]; exact HM.out.s1.glt h, fun k h => by rw [hz]; exact HM.out.s2.glt h, by rw [hz]; exact HM.out.bel.size⟩
      have Z1 : Hid (z ≤ wr.heap.size) := by show _ ≤ _; omega
      have X1 := K.Hid.mk' (XD.out wr g2 HM.out.s2)
      clear hM hdl hM2 hdl2 hz HL HR HT HN hD hE
      go_wp2_with fail
      refine X1.out.mono ?_
      rintro x w2 ⟨v7, rfl, own7, b2⟩
      obtain ⟨a7, c7, rfl, _, _, _⟩ := own7.open
      have O7 : Hid (K.OwnB w2 z (.slice a7 D.length c7) D) := K.own_base own7 Z1.out
      have A2 := K.Hid.mk' (HM.out.below b2)
      have Z2 : Hid (z ≤ w2.heap.size) := Nat.le_trans Z1.out b2.size
      have X2 := K.Hid.mk' (WD.out w2 g1 A2.out.s1)
      clear own7 b2 HM X1 Z1
      go_wp2_with fail
      refine X2.out.mono ?_
      rintro x w3 ⟨v9, rfl, own9, b3⟩
      obtain ⟨a9, c9, rfl, _, _, _⟩ := own9.open
      have O9 : Hid (K.OwnB w3 z (.slice a9 D.length c9) D) := K.own_base own9 Z2.out
      have O7b := K.Hid.mk' (O7.out.below b3)
      have A3 := K.Hid.mk' (A2.out.below b3)
      have Z3 : Hid (z ≤ w3.heap.size) := Nat.le_trans Z2.out b3.size
      have B9 : Hid (∀ b, (Value.slice a9 D.length c9).ownBlock = some b → z ≤ b ∧ b < w3.heap.size) := fun b e => World.ownsRow.lt O9.out b e
      have S1 := K.Hid.mk' (K.same_own O9.out O7b.out HD1.out)
      clear own9 b3 O7 A2 X2 Z2
      go_wp2_with fail
      refine S1.out.mono ?_
      rintro x w4 ⟨rfl, b4⟩
      have O9b := K.Hid.mk' (O9.out.below b4)
      have O7c := K.Hid.mk' (O7b.out.below b4)
      have A4 := K.Hid.mk' (A3.out.below b4)
      have Z4 : Hid (z ≤ w4.heap.size ∧ w3.heap.size ≤ w4.heap.size) := ⟨Nat.le_trans Z3.out b4.size, b4.size⟩
      have X4 := K.Hid.mk' (WD.out w4 g1 A4.out.s1)
      clear b4 O9 O7b A3 S1 Z3
      go_wp2_with fail
      refine X4.out.mono ?_
      rintro x w5 ⟨v11, rfl, own11, b5⟩
      obtain ⟨a11, c11, rfl, _, _, _⟩ := own11.open
      have O11 : Hid (K.OwnB w5 z (.slice a11 D.length c11) D) := K.own_base own11 Z4.out.1
      have O9c := K.Hid.mk' (O9b.out.below b5)
      have O7d := K.Hid.mk' (O7c.out.below b5)
      have A5 := K.Hid.mk' (A4.out.below b5)
      have B11 : Hid (∀ b, (Value.slice a11 D.length c11).ownBlock = some b → w3.heap.size ≤ b ∧ b < w5.heap.size) := fun b e => ⟨Nat.le_trans Z4.out.2 (World.ownsRow.lt own11 b e).1, (World.ownsRow.lt own11 b e).2⟩
      have Z5 : Hid (z ≤ w5.heap.size ∧ w3.heap.size ≤ w5.heap.size) := ⟨Nat.le_trans Z4.out.1 b5.size, Nat.le_trans Z4.out.2 b5.size⟩
      have W35 : Hid (w3.heap.size ≤ w5.heap.size) := Z5.out.2
      have S2 := K.Hid.mk' (K.same_own O11.out O7d.out HD1.out)
      clear own11 b5 O9b O7c A4 X4 Z4
      go_wp2_with fail
      refine S2.out.mono ?_
      rintro x w6 ⟨rfl, b6⟩
      have O11b := K.Hid.mk' (O11.out.below b6)
      have O9d := K.Hid.mk' (O9c.out.below b6)
      have A6 := K.Hid.mk' (A5.out.below b6)
      have Z6 : Hid (z ≤ w6.heap.size ∧ w5.heap.size ≤ w6.heap.size ∧ w3.heap.size ≤ w6.heap.size) := ⟨Nat.le_trans Z5.out.1 b6.size, b6.size, Nat.le_trans Z5.out.2 b6.size⟩
      have X6 := K.Hid.mk' (K.wbyte_any 7 7 rfl w6 A6.out.s1 (by have := HM1.out; omega))
      clear b6 O11 O9c O7d A5 S2 Z5
      go_wp2_with fail
      refine X6.out.mono ?_
      rintro x w7 ⟨rfl, a7'⟩
      obtain ⟨g3, ws7, fr7, nw7⟩ := a7'
      obtain ⟨g3', m7⟩ := A6.out.on1 ⟨g3, ws7, fr7, nw7⟩
      obtain rfl : g3' = g3 := K.ws_uniq m7.s1 ws7
      have A7 := K.Hid.mk' m7
      have O11c := K.Hid.mk' (K.own_frw O11b.out fr7 (by have := PZ.out.1; omega) PZ.out.2.1)
      have O9e := K.Hid.mk' (K.own_frw O9d.out fr7 (by have := PZ.out.1; omega) PZ.out.2.1)
      have G3 : Hid (∀ k, g3' = some k → k < z ∨ (w5.heap.size ≤ k ∧ k < w7.heap.size)) := fun k hk => by
        have h1 := ws7.glt hk
        rcases nw7 with e | ⟨y, e, hy⟩
        · exact .inl (PZ.out.2.1 k (e.symm.trans hk))
        · rw [e] at hk
          cases hk
          exact .inr ⟨Nat.le_trans Z6.out.2.1 hy, h1⟩
      have Z7 : Hid (w5.heap.size ≤ w7.heap.size ∧ w3.heap.size ≤ w7.heap.size ∧ z ≤ w7.heap.size) := ⟨Nat.le_trans Z6.out.2.1 fr7.size, Nat.le_trans Z6.out.2.2 fr7.size, Nat.le_trans Z6.out.1 fr7.size⟩
      have X7 := K.Hid.mk' (K.xbyte_any 7 7 rfl w7 A7.out.s2 (by have := HM1.out; omega))
      clear m7 ws7 fr7 nw7 O11b O9d A6 X6 Z6
      go_wp2_with fail
      refine X7.out.mono ?_
      rintro x w8 ⟨rfl, a8'⟩
      obtain ⟨g4, ws8, fr8, nw8⟩ := a8'
      obtain ⟨g4', m8⟩ := A7.out.on2 ⟨g4, ws8, fr8, nw8⟩
      obtain rfl : g4' = g4 := K.ws_uniq m8.s2 ws8
      have A8 := K.Hid.mk' m8
      have O11d := K.Hid.mk' (K.own_frw O11c.out fr8 (by have := PZ.out.1; omega) PZ.out.2.2.1)
      have O9f := K.Hid.mk' (K.own_frw O9e.out fr8 (by have := PZ.out.1; omega) PZ.out.2.2.1)
      have Z8 : Hid (w5.heap.size ≤ w8.heap.size ∧ w3.heap.size ≤ w8.heap.size ∧ z ≤ w8.heap.size ∧ w7.heap.size ≤ w8.heap.size) := ⟨Nat.le_trans Z7.out.1 fr8.size, Nat.le_trans Z7.out.2.1 fr8.size, Nat.le_trans Z7.out.2.2 fr8.size, fr8.size⟩
      have X8 := K.Hid.mk' (WE.out w8 g3' A8.out.s1)
      clear m8 ws8 fr8 nw8 O11c O9e A7 X7 Z7
      go_wp2_with fail
      refine X8.out.mono ?_
      rintro x w9 ⟨v12, rfl, own12, b9⟩
      obtain ⟨a12, c12, rfl, _, _, _⟩ := own12.open
      have O12 := K.Hid.mk' own12
      have O11e := K.Hid.mk' (O11d.out.below b9)
      have O9g := K.Hid.mk' (O9f.out.below b9)
      have A9 := K.Hid.mk' (A8.out.below b9)
      have Z9 : Hid (w8.heap.size ≤ w9.heap.size) := b9.size
      have B12 : Hid (∀ b, (Value.slice a12 E.length c12).ownBlock = some b → w8.heap.size ≤ b ∧ b < w9.heap.size) := fun b e => World.ownsRow.lt own12 b e
      have X9 := K.Hid.mk' (XE.out w9 g4' A9.out.s2)
      clear own12 b9 O11d O9f A8 X8
      go_wp2_with fail
      refine X9.out.mono ?_
      rintro x w10 ⟨v17, rfl, own17, b10⟩
      obtain ⟨a17, c17, rfl, _, _, _⟩ := own17.open
      have O17 := K.Hid.mk' own17
      have O12b := K.Hid.mk' (O12.out.below b10)
      have O11f := K.Hid.mk' (O11e.out.below b10)
      have O9h := K.Hid.mk' (O9g.out.below b10)
      have A10 := K.Hid.mk' (A9.out.below b10)
      have Z10 : Hid (w9.heap.size ≤ w10.heap.size) := b10.size
      have B17 : Hid (∀ b, (Value.slice a17 E.length c17).ownBlock = some b → w9.heap.size ≤ b ∧ b < w10.heap.size) := fun b e => World.ownsRow.lt own17 b e
      have S3 := K.Hid.mk' (K.same_own O12b.out O17.out HD2.out)
      clear own17 b10 O12 O11e O9g A9 X9
      go_wp2_with fail
      refine S3.out.mono ?_
      rintro x w11 ⟨rfl, b11⟩
      obtain ⟨w12, hw12⟩ : ∃ w12, w12 = w11.alloc (.cells (K.bkC (.slice none 0 0)) 66) := ⟨_, rfl⟩
      have b12 : Below w11.heap.size w11 w12 := by rw [hw12]; exact (Below.refl _ _).alloc (Nat.le_refl _) _
      have b1012 : Below w10.heap.size w10 w12 := b11.trans (b12.mono b11.size)
      have N0 : K.BkN w12 w11.heap.size w11.heap.size (.slice none 0 0) [] := by rw [hw12]; exact ⟨heap_alloc_new _ _, World.ownsRow_nil _ _ _ _, by simp [Value.ownBlock]⟩
      have O17b := K.Hid.mk' (O17.out.below b1012)
      have O12c := K.Hid.mk' (O12b.out.below b1012)
      have O11g := K.Hid.mk' (O11f.out.below b1012)
      have O9i := K.Hid.mk' (O9h.out.below b1012)
      have A12 := K.Hid.mk' (A10.out.below b1012)
      have Z11 : Hid (w10.heap.size ≤ w11.heap.size ∧ w12.heap.size = w11.heap.size + 1) := ⟨b11.size, by rw [hw12]; simp⟩
      have T1 : Hid (Calls Tryz.prog 15 #[.pointer (some ⟨w11.heap.size, 0, none⟩), .slice a9 D.length c9] (w11.alloc (.cells (K.bkC (.slice none 0 0)) 66)) fun e w' => e = .returned (.tuple #[]) ∧ (∃ all', K.BkN w' w11.heap.size w11.heap.size all' ([] ++ [.slice a9 D.length c9])) ∧ Below w11.heap.size w12 w') := by rw [← hw12]; exact K.take_any _ _ _ [] a9 D.length c9 w12 N0 (by simp) (Nat.le_refl _)
      clear b11 b12 b1012 N0 hw12 O17 O12b O11f O9h A10 S3
      go_wp2_with fail
      refine T1.out.mono ?_
      rintro x w13 ⟨rfl, ⟨all1, N1⟩, b13⟩
      have B13 := K.Hid.mk' b13
      have T2 := K.Hid.mk' (K.take_any _ _ all1 _ a11 D.length c11 w13 N1 (by simp) (Nat.le_refl _))
      clear N1 b13 T1
      go_wp2_with fail
      refine T2.out.mono ?_
      rintro x w14 ⟨rfl, ⟨all2, N2⟩, b14⟩
      have B14 := K.Hid.mk' (B13.out.trans b14)
      have T3 := K.Hid.mk' (K.take_any _ _ all2 _ a12 E.length c12 w14 N2 (by simp) (Nat.le_refl _))
      clear N2 b14 T2 B13
      go_wp2_with fail
      refine T3.out.mono ?_
      rintro x w15 ⟨rfl, ⟨all3, N3⟩, b15⟩
      have B15 := K.Hid.mk' (B14.out.trans b15)
      obtain ⟨V, hV⟩ : ∃ V : Nat → K.Lst, V = fun i => if i = 0 then ⟨a9, D.length, c9⟩ else if i = 1 then ⟨a11, D.length, c11⟩ else ⟨a12, E.length, c12⟩ := ⟨_, rfl⟩
      obtain ⟨LL, hLL⟩ : ∃ LL : Nat → List UInt8, LL = fun i => if i = 0 then D else if i = 1 then D else E := ⟨_, rfl⟩
      have v0 : V 0 = ⟨a9, D.length, c9⟩ := by rw [hV]; rfl
      have v1 : V 1 = ⟨a11, D.length, c11⟩ := by rw [hV]; rfl
      have v2 : V 2 = ⟨a12, E.length, c12⟩ := by rw [hV]; rfl
      have l0 : LL 0 = D := by rw [hLL]; rfl
      have l1 : LL 1 = D := by rw [hLL]; rfl
      have l2 : LL 2 = E := by rw [hLL]; rfl
      have c3 : ∀ i, i < 3 → i = 0 ∨ i = 1 ∨ i = 2 := fun i hi => by omega
      have kq : ∀ b, b < w11.heap.size → w15.heap[b]? = w12.heap[b]? := fun b hb => B15.out.block b hb
      have rg : ∀ i, i < 3 → ∀ b, (V i).v.ownBlock = some b → z ≤ b ∧ b < w11.heap.size ∧ (i = 0 → b < w3.heap.size) ∧ (i = 1 → w3.heap.size ≤ b ∧ b < w5.heap.size) ∧ (i = 2 → w8.heap.size ≤ b ∧ b < w9.heap.size) := fun i hi b hb => by
        have e1 := Z8.out
        have e2 := Z9.out
        have e3 := Z10.out
        have e4 := Z11.out
        rcases c3 i hi with rfl | rfl | rfl
        · rw [v0] at hb
          have := B9.out b hb
          refine ⟨by omega, by omega, fun _ => by omega, fun h => by omega, fun h => by omega⟩
        · rw [v1] at hb
          have := B11.out b hb
          have h3 := (World.ownsRow.lt O11g.out b hb).1
          refine ⟨by omega, by omega, fun h => by omega, fun _ => by omega, fun h => by omega⟩
        · rw [v2] at hb
          have := B12.out b hb
          refine ⟨by omega, by omega, fun h => by omega, fun h => by omega, fun _ => by omega⟩
      have Rg := K.Hid.mk' rg
      have ow : ∀ i, i < 3 → K.OwnB w15 z (V i).v (LL i) ∧ (LL i).length = (V i).n := fun i hi => by
        have r := fun b hb => kq b (rg i hi b hb).2.1
        rcases c3 i hi with rfl | rfl | rfl
        · rw [v0] at r ⊢; rw [l0]; exact ⟨K.own_keep O9i.out r, rfl⟩
        · rw [v1] at r ⊢; rw [l1]; exact ⟨K.own_keep O11g.out r, rfl⟩
        · rw [v2] at r ⊢; rw [l2]; exact ⟨K.own_base (K.own_keep O12c.out r) Z8.out.2.2.1, rfl⟩
      have hnV : ∀ i, i < 3 → (V i).n ≤ 140737488351232 := fun i hi => by
        have h1 := HD1.out
        have h2 := HD2.out
        rcases c3 i hi with rfl | rfl | rfl
        · rw [v0]; exact h1
        · rw [v1]; exact h1
        · rw [v2]; exact h2
      have sp : ∀ i j, i < 3 → j < 3 → ∀ b, (V i).v.ownBlock = some b → (V j).v.ownBlock = some b → i = j := fun i j hi hj b h1 h2 => by
        have r1 := rg i hi b h1
        have r2 := rg j hj b h2
        have e1 := Z8.out
        rcases c3 i hi with rfl | rfl | rfl <;> rcases c3 j hj with rfl | rfl | rfl <;> omega
      have bn : K.BkN w15 w11.heap.size w11.heap.size all3 ((List.range 3).map fun i => (V i).v) := by
        have : ((List.range 3).map fun i => (V i).v) = [] ++ [.slice a9 D.length c9] ++ [.slice a11 D.length c11] ++ [.slice a12 E.length c12] := by
          show [(V 0).v, (V 1).v, (V 2).v] = _
          rw [v0, v1, v2]
          rfl
        rw [this]
        exact N3
      have zq : z ≤ w11.heap.size := by have := Z8.out; have := Z9.out; have := Z10.out; have := Z11.out; omega
      have X15 : Hid (Calls Tryz.prog 16 #[.pointer (some ⟨w11.heap.size, 0, none⟩)] w15 fun e w' => e = .returned (.bool true) ∧ Below z w15 w' ∧ ∀ k, k < w15.heap.size → k ≠ w11.heap.size → (∀ i, i < 3 → (V i).v.ownBlock ≠ some k) → w'.heap[k]? = w15.heap[k]?) :=
        K.bookB_any w11.heap.size z 3 all3 V LL w15 (by omega) (by omega) hnV bn zq ow sp (fun i hi b hb => (rg i hi b hb).2.1)
      have WS15 : Hid (K.WS w15 28 w1.heap.size g3' (K.wA M e [7]) e) := by
        have e1 := Z8.out
        have e2 := Z9.out
        have e3 := Z10.out
        have e4 := Z11.out
        have e5 := PZ.out.1
        exact K.ws_keep A12.out.s1 (kq _ (by omega)) (fun k hk => kq k (by have := G3.out k hk; omega))
      have O17c : Hid (K.OwnB w15 w9.heap.size (.slice a17 E.length c17) E) := K.own_keep O17b.out (fun b hb => kq b (by have := B17.out b hb; have := Z11.out; omega))
      have BW : Hid (Below w.heap.size w w15) := A12.out.bel.trans (B15.out.mono (Nat.le_trans PZ.out.2.2.2 zq))
      have S15 : Hid (w11.heap.size < w15.heap.size) := by have := B15.out.size; have := Z11.out; show _ < _; omega
      have ZQ : Hid (z ≤ w11.heap.size) := zq
      clear N3 b15 B14 T3 hV hLL v0 v1 v2 l0 l1 l2 c3 kq rg ow hnV sp bn zq O17b O12c O11g O9i A12
      go_wp2_with fail
      refine X15.out.mono ?_
      rintro x w16 ⟨rfl, b16, fr16⟩
      have nl : ∀ k, k < w11.heap.size → (k < z ∨ (w5.heap.size ≤ k ∧ k < w7.heap.size) ∨ w9.heap.size ≤ k) → w16.heap[k]? = w15.heap[k]? := fun k hk h => fr16 k (by have := S15.out; omega) (by omega) (fun i hi hb => by
        have r := Rg.out i hi k hb
        have e0 := W35.out
        have e1 := Z8.out
        have e2 := Z9.out
        have : i = 0 ∨ i = 1 ∨ i = 2 := by omega
        rcases this with rfl | rfl | rfl <;> omega)
      have WS16 : Hid (K.WS w16 28 w1.heap.size g3' (K.wA M e [7]) e) := by
        have e1 := Z8.out
        have e2 := Z9.out
        have e3 := Z10.out
        have e4 := Z11.out
        have e5 := PZ.out.1
        exact K.ws_keep WS15.out (nl _ (by omega) (by omega)) (fun k hk => by have := G3.out k hk; exact nl k (by omega) (by omega))
      have O17d : Hid (K.OwnB w16 w9.heap.size (.slice a17 E.length c17) E) := K.own_keep O17c.out (fun b hb => by have := B17.out b hb; have := Z11.out; exact nl b (by omega) (by omega))
      have BW2 : Hid (Below w.heap.size w w16) := BW.out.trans (b16.mono PZ.out.2.2.2)
      have X16 := K.Hid.mk' (WE.out w16 g3' WS16.out)
      clear b16 fr16 nl WS15 O17c BW X15
      go_wp2_with fail
      refine X16.out.mono ?_
      rintro x w17 ⟨v14, rfl, own14, b17⟩
      obtain ⟨a14, c14, rfl, _, _, _⟩ := own14.open
      have BW3 : Hid (Below w.heap.size w w17) := BW2.out.trans (b17.mono BW2.out.size)
      have S4 := K.Hid.mk' (K.same_own own14 (O17d.out.below b17) HD2.out)
      clear own14 b17 O17d X16 WS16 BW2
      go_wp2_with fail
      refine S4.out.mono ?_
      rintro x w18 ⟨rfl, b18⟩
      have BW4 : Hid (Below w.heap.size w w18) := BW3.out.trans (b18.mono BW3.out.size)
      clear b18 S4 BW3
      go_wp2
      go_ret
      exact ⟨rfl, BW4.out⟩
end Go.Proofs.YtgiblfhajiakgaaGreatDoor
