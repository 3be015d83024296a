import Derived.Test.YthlcmijekgjgjaaDoorRh0
namespace Go.Proofs.YthlcmijekgjgjaaDoor
open Go.RowKit
set_option linter.unusedVariables false
set_option linter.unusedSimpArgs false

def h77 : Hd := ⟨77, z32'⟩
theorem h77_ok : HdOk h77 := ⟨rfl, by decide, by decide⟩
theorem built77 : Tryd.prog.built 26 [(0, .int .i64 77)] = some (hdC h77).toArray := by kernel_rfl
theorem at_bd26 {P : Program} {ops : Array Oper} {R : List Oper} {a : Act} {w : World} {Q : Exit → Act → World → Prop} {d : Option Tmp} {ty : TypeId} {pos : String} {af : _} {g : _} {v : _} (h : wpList P ops Q (⟨d, .build 26 v, ty, pos, af, g⟩ :: R) a w) : wpList P ops Q (⟨d, .build 26 v, ty, pos, af, g⟩ :: R) a w := h
theorem at_bs1 {P : Program} {ops : Array Oper} {R : List Oper} {a : Act} {w : World} {Q : Exit → Act → World → Prop} {d : Option Tmp} {ty : TypeId} {pos : String} {af : _} {g : _} {v : _} (h : wpList P ops Q (⟨d, .buildSlice 22 1 v, ty, pos, af, g⟩ :: R) a w) : wpList P ops Q (⟨d, .buildSlice 22 1 v, ty, pos, af, g⟩ :: R) a w := h
theorem own_empty (w : World) : OwnHd (w.alloc (.cells #[] 26)) w.heap.size (.slice (some ⟨w.heap.size, 0, none⟩) 0 0) [] :=
  ⟨rfl, .inr ⟨w.heap.size, 0, #[], rfl, Nat.le_refl _, heap_alloc_new _ _, by simp, by simp [maxLen], rfl, rfl⟩⟩
/-- The tables of the sums. -/
structure Tb (w : World) : Prop where
  k : KeysAt w
  f : FirstAt w
  r : RoundsAt w
  o : RootsAt w
  z : 4 ≤ w.heap.size
theorem Tb.below {w w' : World} (h : Tb w) (hb : Below w.heap.size w w') : Tb w' := ⟨keysAt_below h.k hb, firstAt_below h.f hb, rounds_b h.r hb, roots_b h.o hb, Nat.le_trans h.z hb.size⟩
set_option maxRecDepth 100000 in
set_option maxHeartbeats 8000000 in
theorem rings_all (s : ByteArray) (a : Option Addr) (L : List Hd) (n c : Nat) (w : World) (hs : s.size ≤ 140737488351232) (hln : L.length = n) (hok : ∀ h ∈ L, HdOk h) (hn : n ≤ 3518437208780) (hA : HdsAt w a L) (hT : Tb w) :
    Calls Tryd.prog 3 #[.string s, .slice a n c] w fun e w' => e = .returned (.bool true) ∧ Below w.heap.size w w' := by
  have HO := Hid.mk' hok
  have HN := Hid.mk' hln
  have HT := Hid.mk' hT
  have HA := Hid.mk' hA
  obtain ⟨W0, hW0⟩ : ∃ W0, w.alloc (.cells #[] 26) = W0 := ⟨_, rfl⟩
  have b0 : Below w.heap.size w W0 := by rw [← hW0]; exact (Below.refl _ _).alloc (Nat.le_refl _) _
  have O0 : Hid (OwnHd W0 w.heap.size (.slice (some ⟨w.heap.size, 0, none⟩) 0 0) []) := by show OwnHd _ _ _ _; rw [← hW0]; exact own_empty w
  have A0 := Hid.mk' (hA.below b0)
  have HB0 := Hid.mk' b0
  have HW0 := Hid.mk' hW0
  clear hok hln hA hT hW0 b0
  go_enter Tryd.func3, Tryd.ntmps3
  go_wp2_with (first
    | (at_builtin; rw [HW0.out]; refine wpList_appH rfl (.tmp 11) (.tmp 12) rfl rfl w.heap.size (.slice (some ⟨w.heap.size, 0, none⟩) 0 0) [] rfl O0.out a n c L rfl HN.out A0.out HO.out (by rw [HN.out]; simp; omega) HB0.out.size ?_)
    | fail)
  intro v1 W1 own1 gr1 _
  have bw1 : Below w.heap.size w W1 := HB0.out.grown gr1 HB0.out.size (fun k e => by cases e; exact Nat.le_refl _)
  obtain ⟨W2, hW2⟩ : ∃ W2, W1.alloc (.cells (hdC h77).toArray 26) = W2 := ⟨_, rfl⟩
  have b2 : Below W1.heap.size W1 W2 := by rw [← hW2]; exact (Below.refl _ _).alloc (Nat.le_refl _) _
  have O2 := Hid.mk' (own1.below b2)
  have A2 : Hid (HdsAt W2 (some ⟨W1.heap.size, 0, none⟩) [h77]) := by show HdsAt _ _ _; rw [← hW2]; exact hds_lit _ _ _
  have HB2 : Hid (Below w.heap.size w W2) := bw1.trans (b2.mono bw1.size)
  obtain ⟨a1, c1, rfl, _, _⟩ := own1.open HO.out
  rw [HN.out] at O2 ⊢
  have HW2 := Hid.mk' hW2
  clear own1 gr1 bw1 b2 hW2 O0 A0 HB0
  go_wp2_with (first
    | (with_reducible refine at_bd26 ?_; refine wpList_build_one rfl 26 0 (.const (.int .i64 77)) rfl (.int .i64 77) rfl (hdC h77).toArray built77 ?_)
    | (with_reducible refine at_bs1 ?_; refine wpList_bs26 rfl (.tmp 14) rfl h77 h77_ok rfl ?_; rw [HW2.out])
    | (at_builtin; refine wpList_appH rfl (.tmp 13) (.tmp 15) rfl rfl w.heap.size (.slice a1 n c1) L rfl O2.out (some ⟨W1.heap.size, 0, none⟩) 1 1 [h77] rfl rfl A2.out (fun y hy => by simp at hy; subst hy; exact h77_ok) (by rw [HN.out]; simp; omega) HB2.out.size ?_)
    | fail)
  intro v3 W3 own3 gr3 _
  have ok3 : ∀ y ∈ L ++ [h77], HdOk y := fun y hy => by
    rw [List.mem_append] at hy
    rcases hy with hy | hy
    · exact HO.out y hy
    · simp at hy; subst hy; exact h77_ok
  have l3 : (L ++ [h77]).length = n + 1 := by rw [List.length_append, HN.out]; rfl
  have bw3 : Below w.heap.size w W3 := HB2.out.grown gr3 HB2.out.size (fun k e => (World.ownsRow.lt O2.out k e).1)
  obtain ⟨g, c3, rfl⟩ : ∃ g c3, v3 = .slice (some ⟨g, 0, none⟩) (n + 1) c3 := by
    rcases own3.2 with ⟨_, h1⟩ | ⟨g, cap, cur, e1, _⟩
    · rw [l3] at h1; omega
    · rw [l3] at e1; exact ⟨g, cap, e1⟩
  obtain ⟨a3', c3', e3, at3, hc3⟩ := own3.open ok3
  rw [l3] at e3 hc3
  simp only [Value.slice.injEq, true_and] at e3
  obtain ⟨rfl, rfl⟩ := e3
  obtain ⟨b9, off9, e9, hg3, r3⟩ : ∃ b off, (some (⟨g, 0, none⟩ : Addr)) = some ⟨b, off, none⟩ ∧ b < W3.heap.size ∧ ∀ i h, (L ++ [h77])[i]? = some h → W3.rangeAt b (off + 33 * i) (hdC h) := by
    rcases at3 with e | e
    · rw [e] at l3; simp at l3
    · exact e
  cases e9
  have R3 : Hid (∀ W, Below W3.heap.size W3 W → ∀ i h, (L ++ [h77])[i]? = some h → W.rangeAt g (0 + 33 * i) (hdC h)) := fun W hW i h hh => rangeAt_keep (r3 i h hh) (hW.block g hg3)
  have A3 : HdsAt W3 (some ⟨g, 0, none⟩) L := .inr ⟨g, 0, rfl, hg3, fun i h hh => r3 i h (by rw [List.getElem?_append_left (List.getElem?_eq_some_iff.1 hh).1]; exact hh)⟩
  obtain ⟨E, hE⟩ : ∃ E, ringE (L.map (·.au)) = E := ⟨_, rfl⟩
  have N4 := Hid.mk' (newRing_any (some ⟨g, 0, none⟩) L n c3 W3 HN.out HO.out hn A3)
  have HAb : Hid (∀ W, Below w.heap.size w W → HdsAt W a L) := fun W hW => HA.out.below hW
  have N5 : Hid (∀ W, Below w.heap.size w W → Calls Tryd.prog 5 #[.slice a n c] W fun e w' => ∃ p : Option Addr, e = .returned (.tuple #[.pointer p, .int .i64 E]) ∧ Below W.heap.size W w') := fun W hW => by
    have := rnewRing_any a L n c W HN.out HO.out hn (HAb.out W hW)
    rw [hE] at this
    exact this
  rw [hE] at N4
  have HB3 := Hid.mk' bw3
  have hnc : n ≤ c3 := by omega
  have hnc1 : n + 1 ≤ c3 := hc3
  have HTb : Hid (∀ W, Below w.heap.size w W → Tb W) := fun W hW => HT.out.below hW
  clear own3 gr3 ok3 l3 bw3 at3 r3 A3 hE O2 A2 HB2 hg3 hc3
  go_wp2_with (first
    | (go_at_call 4; refine N4.out.mono ?_)
    | fail)
  rintro e W4 ⟨p, rfl, hp, b4⟩
  have HB4 : Hid (Below W3.heap.size W3 W4) := b4
  have HBw4 : Hid (Below w.heap.size w W4) := HB3.out.trans (b4.mono HB3.out.size)
  have HPS := Hid.mk' hp
  clear b4 hp N4
  go_wp2_with (first
    | (go_at_call 5; refine (N5.out _ HBw4.out).mono ?_)
    | fail)
  rintro e W5 h5
  have h5' : (∃ p2 : Option Addr, e = .returned (.tuple #[.pointer p2, .int .i64 E])) ∧ Below W4.heap.size W4 W5 := by
    first
      | exact h5
      | (obtain ⟨p2, e2, b2⟩ := h5; exact ⟨⟨p2, e2⟩, b2⟩)
  clear h5
  obtain ⟨⟨p2, rfl⟩, b5⟩ := h5'
  have HB5 : Hid (Below W3.heap.size W3 W5) := HB4.out.trans (b5.mono HB4.out.size)
  have HBw5 : Hid (Below w.heap.size w W5) := HBw4.out.trans (b5.mono HBw4.out.size)
  clear b5 N5 HB4 HBw4
  go_wp2
  go_loopw [10] (fun i wr => ∃ k : Nat, k ≤ n ∧ i = .int .i64 (k : Int) ∧ Hid (Below W3.heap.size W3 wr) ∧ Hid (Below w.heap.size w wr)) (fun i _ => n - (intOf i).toNat)
  case atStart => exact ⟨0, by omega, rfl, HB5, HBw5⟩
  case round =>
    clear HB5 HBw5
    obtain ⟨k, hk, rfl, HB6, HBw6⟩ := hrel
    by_cases hkn : k < n
    · have hkn' : (k : Int) < (n : Int) := by omega
      obtain ⟨h, hh⟩ : ∃ h, L[k]? = some h := ⟨L[k]'(by rw [HN.out]; exact hkn), List.getElem?_eq_getElem _⟩
      have OK := Hid.mk' (HO.out h (List.mem_of_getElem? hh))
      have hh2 : (L ++ [h77])[k]? = some h := by rw [List.getElem?_append_left (List.getElem?_eq_some_iff.1 hh).1]; exact hh
      obtain ⟨b, off, rfl, hbw, hr⟩ : ∃ b off, a = some ⟨b, off, none⟩ ∧ b < w.heap.size ∧ ∀ i x, L[i]? = some x → w.rangeAt b (off + 33 * i) (hdC x) := by
        rcases HA.out with e | e
        · rw [e] at hh; cases hh
        · exact e
      have SA : Hid (wr.drew.rangeAt g (0 + 33 * k) (hdC h) ∧ wr.drew.rangeAt b (off + 33 * k) (hdC h)) := ⟨R3.out _ HB6.out.drew k h hh2, rangeAt_keep (hr k h hh) (HBw6.out.drew.block b hbw)⟩
      have K3 : Hid (∀ wx : World, wx.rangeAt g (0 + 33 * k) (hdC h) ∧ wx.rangeAt b (off + 33 * k) (hdC h) → (Instr.loadAt 26 (.pointer (some ⟨g, 0 + 33 * k, none⟩))).run Tryd.prog wx = .ok (.agg (hdC h).toArray) wx) := fun wx hx => load26 wx g _ h OK.out hx.1
      have K7 : Hid (∀ wx : World, wx.rangeAt g (0 + 33 * k) (hdC h) ∧ wx.rangeAt b (off + 33 * k) (hdC h) → (Instr.loadAt 26 (.pointer (some ⟨b, off + 33 * k, none⟩))).run Tryd.prog wx = .ok (.agg (hdC h).toArray) wx) := fun wx hx => load26 wx b _ h OK.out hx.2
      clear hr hh hh2 hbw
      go_upto_region 7 with fail
      refine law7 g (0 + 33 * k) b (off + 33 * k) (k : Int) _ _ (hdC h).toArray (fun wx => wx.rangeAt g (0 + 33 * k) (hdC h) ∧ wx.rangeAt b (off + 33 * k) (hdC h)) _ wr _ rfl rfl rfl rfl SA.out (fun wx => index22 g 0 n c3 k wx hkn) K3.out (fun wx => index22 b off n c k wx hkn) K7.out (fun wx => gd26 _ _ _ _ wx) (fun wx _ => neq26 h OK.out wx) ?_
      intro a9 hact
      subst hact
      have HB7 : Hid (Below W3.heap.size W3 wr.drew) := HB6.out.drew
      have HBw7 : Hid (Below w.heap.size w wr.drew) := HBw6.out.drew
      clear SA K3 K7
      simp only [Act.put, List.setIfInBounds_toArray, List.set_cons_zero, List.set_cons_succ]
      go_wp2
      exact ⟨⟨k + 1, by omega, by go_num, HB7, HBw7⟩, by simp [intOf]; omega⟩
    · have hkn' : ¬ (k : Int) < (n : Int) := by omega
      have D6 := Hid.mk' (derive_any s wr hs (HTb.out wr HBw6.out).k (HTb.out wr HBw6.out).f)
      have D7 : Hid (∀ W, Below wr.heap.size wr W → Calls Tryd.prog 7 #[.string s] W fun e w' => e = .returned (.agg (bs (sha (secB s)))) ∧ Below W.heap.size W w') := fun W hW => by
        have t := (HTb.out wr HBw6.out).below hW
        exact rderive_any s W hs t.r t.o t.z
      have eqk : ∀ wx : World, (Op.equalIn 10000 24 (.agg (bs (sha (secB s)))) (.agg (bs (sha (secB s))))).run Tryd.prog wx = .ok true wx := fun wx => by
        have := eqK 9998 (sha (secB s)) (sha (secB s)) (sha_len _) (sha_len _) wx
        simpa using this
      generalize hX : bs (sha (secB s)) = X at *
      clear hX
      go_wp2_with (first
        | (go_at_call 6; refine D6.out.mono ?_)
        | fail)
      rintro e W7 rfl b7
      have HB7 := Hid.mk' b7
      clear b7 D6
      go_wp2_with (first
        | (go_at_call 7; refine (D7.out _ HB7.out).mono ?_)
        | fail)
      rintro e W8 ⟨rfl, b8⟩
      have bb : Below wr.heap.size wr W8 := HB7.out.trans (b8.mono HB7.out.size)
      have HBw8 : Hid (Below w.heap.size w W8) := HBw6.out.trans (bb.mono HBw6.out.size)
      have hB38 : Below W3.heap.size W3 W8 := HB6.out.trans (bb.mono HB6.out.size)
      have c77 : W8.cell? ⟨g, 33 * n, none⟩ = some (.int .i64 77) := by
        have := R3.out W8 hB38 n h77 (by rw [List.getElem?_append_right (by rw [HN.out]; exact Nat.le_refl _), HN.out]; simp) 0 _ rfl
        rw [show 0 + 33 * n + 0 = 33 * n by omega] at this
        exact this
      have ix9 := fun wx => index22 g 0 (n + 1) c3 n wx (Nat.lt_succ_self n)
      clear b8 bb hB38 D7 HB7
      cases p with
      | none =>
        have hE0 : (E == 0) = false := by
          have := HPS.out
          simp at this
          simpa using this
        go_wp2
        go_ret
        exact ⟨rfl, HBw8.out⟩
      | some ad =>
        have hE0 : E = 0 := by
          have := HPS.out
          simpa using this
        subst hE0
        go_wp2
        go_ret
        exact ⟨rfl, HBw8.out⟩
end Go.Proofs.YthlcmijekgjgjaaDoor
