import Derived.Test.YtnbdohomaadbfaaYg0
namespace Go.Proofs.Ytnbdohomaadbfaa
open Go.RowKit
set_option linter.unusedVariables false
set_option linter.unusedSimpArgs false

set_option maxRecDepth 100000 in
set_option maxHeartbeats 4000000 in
theorem back_all (a1 a2 : Option Addr) (L : List (List UInt8)) (B h : List UInt8) (c1 c2 : Nat) (w : World) (hL : All32 L) (hn : L.length ≤ 4398046511104) (hl1 : Hl w a1 L) (hB : B.length ≤ 140737488351232) (ha : a2 = none → c2 = 0) (hb : K.Byt w a2 B) (hh : h.length = 32) :
    Calls Try.prog 6 #[.slice a1 L.length c1, .slice a2 B.length c2, .agg (bs h)] w fun e w' => e = .returned (.bool true) ∧ Below w.heap.size w w' := by
  have hb0 := ofB_pos (uMap L).length
  have hb1 := ofB_le (uMap L).length
  have hob := okB_ofB (uMap L).length
  have HOF : Hid (∀ W, Below w.heap.size w W → Calls Try.prog 9 #[.slice a1 L.length c1] W (OfPost W.heap.size (ofB (uMap L).length) (addL _ hb0 7 (fun _ => 0) L) W)) := fun W hb => of_any a1 L c1 W hL hn (hl1.below hL hb)
  have HLT : Hid (∀ i, addL (ofB (uMap L).length) hb0 7 (fun _ => 0) L i < 18446744073709551616) := addL_lt hb0 7 (fun i => by omega) L
  have HWI : Hid (Within (addL (ofB (uMap L).length) hb0 7 (fun _ => 0) L) (ofB (uMap L).length)) := within_addL hb0 7 (within_zero _) L
  generalize addL (ofB (uMap L).length) hb0 7 (fun _ => 0) L = ws at *
  generalize ofB (uMap L).length = bits at *
  have hob' := of_decide_eq_true hob
  have HEN : Hid (∀ W q g N, FAt N W q g bits 7 ws → Calls Try.prog 34 #[.pointer (some ⟨q, 0, none⟩)] W (EnPost (encF bits 7 ws) W)) := fun W q g N f => enc_post q g bits 7 ws W f.fw HLT.out hob'.1 hb1 (by omega)
  have HDB : Hid (∀ W pb pc, K.Byt W (some ⟨pb, 0, none⟩) (encF bits 7 ws) → Calls Try.prog 29 #[.slice (some ⟨pb, 0, none⟩) (encF bits 7 ws).length pc] W (OkPost bits 7 ws W)) := fun W pb pc hy => dec_back pb pc bits 7 ws W hy hob (by omega) HWI.out HLT.out
  have HSM : Hid (∀ W b c pb pc, K.Byt W (some ⟨b, 0, none⟩) (encF bits 7 ws) → K.Byt W (some ⟨pb, 0, none⟩) (encF bits 7 ws) → Calls Try.prog 35 #[.slice (some ⟨b, 0, none⟩) (encF bits 7 ws).length c, .slice (some ⟨pb, 0, none⟩) (encF bits 7 ws).length pc] W fun e w' => e = .returned (.bool true) ∧ Below W.heap.size W w') := fun W b c pb pc y1 y2 => same_post _ _ _ c pc W y1 y2 (encF_len bits 7 ws hb1)
  have HBI : Hid (∀ W q g N, FAt N W q g bits 7 ws → Calls Try.prog 32 #[.pointer (some ⟨q, 0, none⟩)] W fun e w' => e = .returned (.int .i64 (bits : Int)) ∧ Below W.heap.size W w') := fun W q g N f => (bits_any q g bits 7 W f.fw.fc).mono (by
    rintro e w' ⟨rfl, rfl⟩
    exact ⟨rfl, Below.refl _ _⟩)
  have HHA : Hid (∀ W q g N, FAt N W q g bits 7 ws → Calls Try.prog 22 #[.pointer (some ⟨q, 0, none⟩), .agg (bs h)] W fun e w' => e = .returned (.bool (allBits ws (spotL h bits hb0 7))) ∧ Below W.heap.size W w') := fun W q g N f => hasF_any q g bits 7 ws h W hh hb0 hb1 (by omega) f.fw HLT.out
  have HSP : Hid (∀ W q g N, FAt N W q g bits 7 ws → Calls Try.prog 25 #[.pointer (some ⟨q, 0, none⟩), .agg (bs h)] W fun e w' => ∃ s c, e = .returned (.slice s 7 c) ∧ RowOn w' s ((spotL h bits hb0 7).map spV) ∧ Below W.heap.size W w') := fun W q g N f => spotsF_any q g bits 7 ws h W hh hb0 hb1 (by omega) f.fw
  have HSI : Hid (∀ W s1 c1 s2 c2, RowOn W s1 ((spotL h bits hb0 7).map spV) → RowOn W s2 ((spotL h bits hb0 7).map spV) → Calls Try.prog 24 #[.slice s1 7 c1, .slice s2 7 c2] W fun e w' => e = .returned (.bool true) ∧ Below W.heap.size W w') := fun W s1 c1 s2 c2 r1 r2 => sameI_any s1 s2 7 c1 c2 (spI (spotL h bits hb0 7)) W (by omega) (row_ints r1 (spotL_len _ _ _ _)) (row_ints r2 (spotL_len _ _ _ _))
  have HTK : Hid (K.doneE B (d4 B) = 0 → ∀ W, Below w.heap.size w W → Calls Try.prog 29 #[.slice a2 B.length c2] W (TkPost B W)) := fun hE W be => dec_take a2 c2 B W hB ha (K.byt_below hb be) hE
  have HNO : Hid (¬ K.doneE B (d4 B) = 0 → ∀ W, Below w.heap.size w W → Calls Try.prog 29 #[.slice a2 B.length c2] W fun e w' => e = .returned (.tuple #[.pointer none, .int .i64 (K.doneE B (d4 B)), .int .i64 (K.doneP B (d4 B))]) ∧ Below W.heap.size W w') := fun hE W be => dec_no a2 c2 B W hB ha (K.byt_below hb be) hE
  generalize K.doneE B (d4 B) = dE at *
  generalize K.doneP B (d4 B) = dP at *
  have HSB : Hid (∀ W b c, Below w.heap.size w W → K.Byt W (some ⟨b, 0, none⟩) B → Calls Try.prog 35 #[.slice (some ⟨b, 0, none⟩) B.length c, .slice a2 B.length c2] W fun e w' => e = .returned (.bool true) ∧ Below W.heap.size W w') := fun W b c be y => (K.same_any _ a2 B B.length c c2 W rfl y (K.byt_below hb be) (by omega)).mono (by
    rintro e w' ⟨rfl, m, rfl⟩
    exact ⟨rfl, K.below_drewN (Below.refl _ _) m⟩)
  generalize allBits ws (spotL h bits hb0 7) = z at *
  generalize (spotL h bits hb0 7).map spV = lS at *
  generalize encF bits 7 ws = EN at *
  have B0 : Hid (Below w.heap.size w (w.alloc (.cells (bs h) 30))) := (Below.refl _ _).alloc (Nat.le_refl _) _
  have R0 : Hid ((w.alloc (.cells (bs h) 30)).rangeAt w.heap.size 0 (hcs h)) := range_box w h 30
  have Z0 : Hid ((w.alloc (.cells (bs h) 30)).heap.size = w.heap.size + 1) := World.size_alloc _ _
  have HH := Hid.mk' hh
  clear hl1 hL hb ha hob hob' HLT HWI hh
  generalize L.length = n at *
  go_enter Try.func6, Try.ntmps6
  go_upto_region 4 with (first
    | (go_at_call 9; refine (HOF.out _ B0.out).mono ?_; clear HOF; rintro e W1 ⟨qf, gf, rfl, f1, b1⟩; have F1 := Hid.mk' f1; have B1 := Hid.mk' (B0.out.trans (b1.mono B0.out.size)); have BA1 := Hid.mk' b1; clear f1 b1; have C34 := Hid.mk' (HEN.out _ _ _ _ F1.out))
    | (go_at_call 34; refine C34.out.mono ?_; clear C34; rintro e W2 ⟨pb, pc, rfl, y2, b2⟩; have Y2 := Hid.mk' y2; have F2 := Hid.mk' (F1.out.below b2); have B2 := Hid.mk' (B1.out.trans (b2.mono B1.out.size)); have BA2 := Hid.mk' (BA1.out.trans (b2.mono BA1.out.size)); clear y2 b2 F1 B1 BA1; have C29 := Hid.mk' (HDB.out _ pb pc (Y2.out _ (Below.refl _ _))))
    | (go_at_call 29; refine C29.out.mono ?_; clear C29; rintro e W3 ⟨qg, gg, rfl, f3, b3⟩; have G3 := Hid.mk' f3; have F3 := Hid.mk' (F2.out.below b3); have B3 := Hid.mk' (B2.out.trans (b3.mono B2.out.size)); have BA3 := Hid.mk' (BA2.out.trans (b3.mono BA2.out.size)); have Y3 := Hid.mk' (fun W (hW : Below W3.heap.size W3 W) => Y2.out W (b3.trans (hW.mono b3.size))); clear f3 b3 F2 B2 BA2 Y2)
    | fail)
  have HLD : Hid (∀ W, Below W3.heap.size W3 W → (Instr.loadAt 30 (.pointer (some ⟨w.heap.size, 0, none⟩))).run Try.prog W = .ok (.agg (bs h)) W) := fun W hb => load30 W _ h HH.out (rangeAt_below R0.out (BA3.out.trans (hb.mono BA3.out.size)) (by rw [Z0.out]; omega))
  refine back4 W3.heap.size W3 qf qg pb pc EN.length w.heap.size 7 (bits : Int) z h lS (fun W b => ∀ W2, Below W.heap.size W W2 → K.Byt W2 (some ⟨b, 0, none⟩) EN) _ W3 _ rfl rfl rfl rfl rfl rfl rfl (Below.refl _ _).drew HLD.out
    (fun W hb => HEN.out W qg gg _ (G3.out.below hb)) (fun W b c hb y => HSM.out W b c pb pc (y W (Below.refl _ _)) (Y3.out W hb)) (fun W hb => HBI.out W qg gg _ (G3.out.below hb)) (fun W hb => HBI.out W qf gf _ (F3.out.below hb)) (fun W hb => HHA.out W qg gg _ (G3.out.below hb)) (fun W hb => HHA.out W qf gf _ (F3.out.below hb))
    (fun W hb => HSP.out W qg gg _ (G3.out.below hb)) (fun W hb => HSP.out W qf gf _ (F3.out.below hb)) (fun W s1 c1 s2 c2 hb r1 r2 => HSI.out W s1 c1 s2 c2 r1 r2) (fun W hb => hb.size) ?_
  intro b4 c4 s1 cc1 s2 cc2 a' W5 b5 hact
  subst hact
  have T5 : Hid (Below w.heap.size w W5) := B3.out.trans (b5.mono B3.out.size)
  clear b5 B3 BA3 F3 G3 Y3 HEN HSM HBI HHA HSP HSI HLD R0 B0 Z0 HDB
  simp only [Act.put, List.setIfInBounds_toArray, List.set_cons_zero, List.set_cons_succ]
  by_cases hE : dE = 0
  · have CT := Hid.mk' (HTK.out hE _ T5.out)
    clear HTK HNO hE
    go_wp2_with (first
      | (go_at_call 29; refine CT.out.mono ?_; clear CT; rintro e W6 ⟨qk, rfl, b6, c6⟩; have T6 := Hid.mk' (T5.out.trans (b6.mono T5.out.size)); have C6 := Hid.mk' c6; clear b6 c6)
      | (go_at_call 34; refine C6.out.mono ?_; clear C6; rintro e W7 ⟨b7, c7, rfl, y7, l7⟩; have T7 := Hid.mk' (T6.out.trans (l7.mono T6.out.size)); have C7 := Hid.mk' (HSB.out _ b7 c7 T7.out (y7 _ (Below.refl _ _))); clear y7 l7)
      | (go_at_call 35; refine C7.out.mono ?_; clear C7; rintro e W8 ⟨rfl, l8⟩; have T8 := Hid.mk' (T7.out.trans (l8.mono T7.out.size)); clear l8)
      | fail)
    go_ret
    exact ⟨rfl, T8.out⟩
  · have hE' : (dE == 0) = false := by simp [hE]
    have CT := Hid.mk' (HNO.out hE _ T5.out)
    clear HTK HNO
    go_wp2_with (first
      | (go_at_call 29; refine CT.out.mono ?_; clear CT; rintro e W6 ⟨rfl, b6⟩; have T6 := Hid.mk' (T5.out.trans (b6.mono T5.out.size)); clear b6)
      | fail)
    go_ret
    exact ⟨rfl, T6.out⟩
end Go.Proofs.Ytnbdohomaadbfaa
