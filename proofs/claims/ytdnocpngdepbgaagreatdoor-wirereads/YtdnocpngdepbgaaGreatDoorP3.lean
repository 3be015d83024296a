import Derived.Test.YtdnocpngdepbgaaGreatDoorP2
import Derived.Great.BuildSlice
import Derived.Test.YtdnocpngdepbgaaGreatDoorP1
import Derived.Laws.FloatArith
import Derived.Test.YtdnocpngdepbgaaGreatDoorHj
import Derived.Test.YtdnocpngdepbgaaGreatDoorKOb
namespace Go.Proofs.YtdnocpngdepbgaaGreatDoor
open Go.RowKit
set_option linter.unusedVariables false
set_option linter.unusedSimpArgs false
theorem OwnH.size {w : World} {base : Nat} {v : Value} {L : List (List UInt8)} (h : OwnH w base v L) : ∃ a cap, v = .slice a L.length cap := by
  rcases h.open with ⟨rfl, rfl⟩ | ⟨g, cap, rfl, _⟩
  · exact ⟨none, 0, rfl⟩
  · exact ⟨_, _, rfl⟩

theorem int_pred {m : Nat} (h : 1 ≤ m) : Value.int .i64 ((m : Int) - 1) = .int .i64 ((m - 1 : Nat) : Int) := by
  rw [show ((m - 1 : Nat) : Int) = (m : Int) - 1 by omega]
theorem hl_one (w : World) : Hl (w.alloc (.cells (bs z32) 36)) (some ⟨w.heap.size, 0, none⟩) [z32] := by
  refine .inr ⟨w.heap.size, 0, rfl, fun i x e => ?_⟩
  have hi : i = 0 := by have := (List.getElem?_eq_some_iff.1 e).1; simp at this; omega
  subst hi
  simp at e
  subst e
  intro j v hv
  rw [Nat.mul_zero, Nat.add_zero, Nat.zero_add, cell_of_row _ w.heap.size j (bs z32) _ (0, 0) (heap_alloc_new _ _)]
  simpa [hcs] using hv

set_option maxRecDepth 100000 in
set_option maxHeartbeats 2000000 in
theorem rising_any (a : Option Addr) (L : List (List UInt8)) (cap : Nat) (w : World) (hL : All32 L) (hb : L.length ≤ 4398046510976) (hl : Hl w a L) :
    Calls Tryz.prog 120 #[.slice a L.length cap] w fun e w' => ∃ v D, e = .returned v ∧ Srt L D ∧ OwnH w' w.heap.size v D ∧ Below w.heap.size w w' := by
  obtain ⟨n, hn⟩ : ∃ n, n = L.length := ⟨_, rfl⟩
  rw [← hn] at hb ⊢
  have HN : Hid (n = L.length) := hn
  have HL : Hid (Hl w a L) := hl
  clear hn hl
  have HO0 : Hid (OwnH w w.heap.size (.slice none 0 0) []) := OwnH.nil _ _
  have HS0 : Hid (Srt (L.take 0) []) := (⟨fun i j x y h => by simp at h, fun x h => by simp at h, fun x => by simp⟩ : Srt (L.take 0) [])
  go_enter Tryz.func120, Tryz.ntmps120
  go_wp2
  go_loopw [3, 4] (fun v i wr => ∃ k : Nat, ∃ D : List (List UInt8), ∃ (va : Option Addr) (vc d : Nat), k ≤ n ∧ d ≤ k ∧ i = .int .i64 k ∧ v = .slice va d vc ∧ Hid (d = D.length) ∧ Hid (OwnH wr w.heap.size (.slice va d vc) D) ∧ Hid (Srt (L.take k) D) ∧ Below w.heap.size w wr) (fun _ i _ => n - (intOf i).toNat)
  case atStart => exact ⟨0, [], none, 0, 0, by omega, by omega, rfl, rfl, rfl, HO0, HS0, Below.refl _ _⟩
  case round =>
    obtain ⟨k, D, va, vc, d, hk, hdk, rfl, rfl, HD, HOr, HSr, bel⟩ := hrel
    by_cases hkn : k < n
    · have hkL : k < L.length := by rw [← HN.out]; exact hkn
      obtain ⟨b, off, rfl, hsA⟩ := HL.out.at hkL
      obtain ⟨x, hx⟩ : ∃ x, L[k]? = some x := ⟨_, List.getElem?_eq_getElem hkL⟩
      have hx32 := hL.get hx
      have hbB : b < w.heap.size := hsA.lt hL (by omega)
      have SX0 : Hid (w.rangeAt b (off + 32 * k) (hcs x)) := hsA k x hx
      have ixL := fun wx => indexH b off n cap k wx hkn
      have HX : Hid (L[k]? = some x) := hx
      clear hx hsA
      go_wp2
      go_loopw [5] (fun i wq => ∃ t : Nat, t ≤ d ∧ i = .int .i64 t ∧ Hid (∀ j y, j < t → D[j]? = some y → cmpL y x < 0) ∧ Hid (OwnH wq w.heap.size (.slice va d vc) D) ∧ Below w.heap.size w wq) (fun i _ => d - (intOf i).toNat)
      case atStart => exact ⟨0, by omega, rfl, (fun j y hj => by omega : ∀ j y, j < 0 → D[j]? = some y → cmpL y x < 0), HOr, bel⟩
      case round =>
        clear HOr bel
        obtain ⟨t, ht, rfl, HLo, HOr, bel⟩ := hrel
        have SX : Hid (wr.rangeAt b (off + 32 * k) (hcs x)) := rangeAt_below SX0.out bel hbB
        by_cases htd : t < d
        · have htD : t < D.length := by rw [← HD.out]; exact htd
          obtain ⟨y, hy⟩ : ∃ y, D[t]? = some y := ⟨_, List.getElem?_eq_getElem htD⟩
          have hy32 := HSr.out.2.1.get hy
          obtain ⟨g, rfl, hnc, hcm, hgB, hbox, hsg⟩ : ∃ g, va = some ⟨g, 0, none⟩ ∧ d ≤ vc ∧ vc ≤ maxLen ∧ w.heap.size ≤ g ∧ Box wr g vc ∧ Hs wr g 0 D := by
            obtain ⟨g, cg, hvg, hnc, hcm, hgB, hbox, hsg⟩ := HOr.out.box (by omega)
            simp only [Value.slice.injEq] at hvg
            obtain ⟨rfl, h2, rfl⟩ := hvg
            exact ⟨g, rfl, by omega, hcm, hgB, hbox, hsg⟩
          have SY : Hid (wr.rangeAt g (32 * t) (hcs y)) := (by have := hsg t y hy; rwa [Nat.zero_add] at this : wr.rangeAt g (32 * t) (hcs y))
          have ixD := fun wx => indexH g 0 d vc t wx htd
          simp only [Nat.zero_add] at ixD
          have HY : Hid (D[t]? = some y) := hy
          have HCm : Hid (∀ wx, Calls Tryz.prog 127 #[.agg (bs y), .agg (bs x)] wx fun e w' => e = .returned (.int .i64 (cmpL y x)) ∧ Below wx.heap.size wx w') := fun wx => rcmp_any y x hy32 hx32 wx
          have hne : Nonempty (ExtT wr) := ExtT.some wr
          have hgl : g < wr.heap.size := hbox.lt
          clear hy hsg hbox htD
          by_cases hc : cmpL y x < 0
          · have HL2 : Hid (∀ j z, j < t + 1 → D[j]? = some z → cmpL z x < 0) := fun j z hj hz => by
              by_cases e : j = t
              · subst e; rw [HY.out] at hz; cases hz; exact hc
              · exact HLo.out j z (by omega) hz
            generalize cmpL y x = c at *
            go_wp2_with fail
            refine wp_region_ext (by kernel_rfl) (by kernel_rfl) ?_
            repeat (first
              | (go_big_quiet_want; refine quiet_load_mid 36 _ rfl g (32 * t) rfl (bs y) _ (by rintro _ ⟨e, rfl⟩; exact e.range SY.out (hcs_pos hy32)) Tryz.underlying36 rfl (sizeH hy32) ?_; simp only [Act.put, List.setIfInBounds_toArray, List.set_cons_zero, List.set_cons_succ]; go_big_quiet_on)
              | (go_big_quiet_want; refine quiet_load_mid 36 _ rfl b (off + 32 * k) rfl (bs x) _ (by rintro _ ⟨e, rfl⟩; exact e.range SX.out (hcs_pos hx32)) Tryz.underlying36 rfl (sizeH hx32) ?_; simp only [Act.put, List.setIfInBounds_toArray, List.set_cons_zero, List.set_cons_succ]; go_big_quiet_on)
              | go_big_quiet_step (first | (go_at_call 127; exact ext_of (HCm.out _)) | fail))
            refine wpQuiet_nil ?_
            rintro w3 ⟨⟨_, bl3⟩, rfl⟩
            have O3 : Hid (OwnH w3 w.heap.size (.slice (some ⟨g, 0, none⟩) d vc) D) := HOr.out.below bl3
            have bel3 : Below w.heap.size w w3 := bel.trans (bl3.mono bel.size)
            clear bl3 hne SX SY HCm hc
            go_wp2
            exact ⟨⟨t + 1, by omega, by go_num, HL2, O3, bel3⟩, by simp [intOf]; omega⟩
          · have HXY : Hid (¬ y = x → cmpL x y < 0) := fun h => lt_of_not hx32 hy32 hc h
            generalize cmpL y x = c at *
            go_wp2_with fail
            refine wp_region_ext (by kernel_rfl) (by kernel_rfl) ?_
            repeat (first
              | (go_big_quiet_want; refine quiet_load_mid 36 _ rfl g (32 * t) rfl (bs y) _ (by rintro _ ⟨e, rfl⟩; exact e.range SY.out (hcs_pos hy32)) Tryz.underlying36 rfl (sizeH hy32) ?_; simp only [Act.put, List.setIfInBounds_toArray, List.set_cons_zero, List.set_cons_succ]; go_big_quiet_on)
              | (go_big_quiet_want; refine quiet_load_mid 36 _ rfl b (off + 32 * k) rfl (bs x) _ (by rintro _ ⟨e, rfl⟩; exact e.range SX.out (hcs_pos hx32)) Tryz.underlying36 rfl (sizeH hx32) ?_; simp only [Act.put, List.setIfInBounds_toArray, List.set_cons_zero, List.set_cons_succ]; go_big_quiet_on)
              | go_big_quiet_step (first | (go_at_call 127; exact ext_of (HCm.out _)) | fail))
            refine wpQuiet_nil ?_
            rintro w3 ⟨⟨_, bl3⟩, rfl⟩
            have O3 : Hid (OwnH w3 w.heap.size (.slice (some ⟨g, 0, none⟩) d vc) D) := HOr.out.below bl3
            have bel3 : Below w.heap.size w w3 := bel.trans (bl3.mono bel.size)
            have SX3 : Hid (w3.rangeAt b (off + 32 * k) (hcs x)) := rangeAt_below SX0.out bel3 hbB
            have SY3 : Hid (w3.rangeAt g (32 * t) (hcs y)) := rangeAt_below SY.out bl3 hgl
            have eqq := fun wx => eq23 y x hy32 hx32 wx
            clear bl3 hne SX SY HCm
            have hne : Nonempty (ExtT w3) := ExtT.some w3
            by_cases hyx : y = x
            · have hd : decide (y = x) = true := by simp [hyx]
              rw [hd] at eqq
              have HE : Hid (Srt (L.take (k + 1)) D) := srt_next HX.out HSr.out HSr.out.1 HSr.out.2.1 (fun z => ⟨fun h => .inl h, fun h => h.elim id (fun e => by rw [e, ← hyx]; exact List.mem_of_getElem? HY.out)⟩)
              clear hd hyx
              go_wp2_with fail
              refine wp_region_ext (by kernel_rfl) (by kernel_rfl) ?_
              repeat (first
                | (go_big_quiet_want; refine quiet_load_mid 36 _ rfl g (32 * t) rfl (bs y) _ (by rintro _ ⟨e, rfl⟩; exact e.range SY3.out (hcs_pos hy32)) Tryz.underlying36 rfl (sizeH hy32) ?_; simp only [Act.put, List.setIfInBounds_toArray, List.set_cons_zero, List.set_cons_succ]; go_big_quiet_on)
                | (go_big_quiet_want; refine quiet_load_mid 36 _ rfl b (off + 32 * k) rfl (bs x) _ (by rintro _ ⟨e, rfl⟩; exact e.range SX3.out (hcs_pos hx32)) Tryz.underlying36 rfl (sizeH hx32) ?_; simp only [Act.put, List.setIfInBounds_toArray, List.set_cons_zero, List.set_cons_succ]; go_big_quiet_on)
                | go_big_quiet_step (fail))
              refine wpQuiet_nil ?_
              rintro w4 ⟨⟨_, bl4⟩, rfl⟩
              have OW4 : Hid (OwnH w4 w.heap.size (.slice (some ⟨g, 0, none⟩) d vc) D) := O3.out.below bl4
              have bel4 : Below w.heap.size w w4 := bel3.trans (bl4.mono bel3.size)
              clear bl4 hne O3 bel3 SX3 SY3
              go_wp2
              exact ⟨⟨k + 1, D, some ⟨g, 0, none⟩, vc, d, by omega, by omega, by go_num, rfl, HD, OW4, HE, bel4⟩, by simp [intOf]; omega⟩
            · have hd : decide (y = x) = false := by simp [hyx]
              rw [hd] at eqq
              have HHi : Hid (∀ z, D[t]? = some z → cmpL x z < 0) := fun z hz => by
                rw [HY.out] at hz
                cases hz
                exact HXY.out hyx
              clear hd hyx
              go_wp2_with fail
              refine wp_region_ext (by kernel_rfl) (by kernel_rfl) ?_
              repeat (first
                | (go_big_quiet_want; refine quiet_load_mid 36 _ rfl g (32 * t) rfl (bs y) _ (by rintro _ ⟨e, rfl⟩; exact e.range SY3.out (hcs_pos hy32)) Tryz.underlying36 rfl (sizeH hy32) ?_; simp only [Act.put, List.setIfInBounds_toArray, List.set_cons_zero, List.set_cons_succ]; go_big_quiet_on)
                | (go_big_quiet_want; refine quiet_load_mid 36 _ rfl b (off + 32 * k) rfl (bs x) _ (by rintro _ ⟨e, rfl⟩; exact e.range SX3.out (hcs_pos hx32)) Tryz.underlying36 rfl (sizeH hx32) ?_; simp only [Act.put, List.setIfInBounds_toArray, List.set_cons_zero, List.set_cons_succ]; go_big_quiet_on)
                | go_big_quiet_step (fail))
              refine wpQuiet_nil ?_
              rintro w4 ⟨⟨_, bl4⟩, rfl⟩
              have OW4 : Hid (OwnH w4 w.heap.size (.slice (some ⟨g, 0, none⟩) d vc) D) := O3.out.below bl4
              have bel4 : Below w.heap.size w w4 := bel3.trans (bl4.mono bel3.size)
              clear bl4 hne O3 bel3 SX3 SY3
              have O1 : Hid (OwnH (w4.alloc (.cells (bs z32) 36)) w.heap.size (.slice (some ⟨g, 0, none⟩) d vc) D) := OW4.out.below ((Below.refl _ _).alloc (Nat.le_refl _) _)
              have be1 : Below w.heap.size w (w4.alloc (.cells (bs z32) 36)) := bel4.alloc bel4.size _
              have B1 : Hid (Hl (w4.alloc (.cells (bs z32) 36)) (some ⟨w4.heap.size, 0, none⟩) [z32]) := hl_one w4
              have A1 : Hid (All32 [z32]) := (fun y h => by simp at h; subst h; exact z32_len : All32 [z32])
              have S1 : Hid (D.length + ([z32] : List (List UInt8)).length ≤ 4398046511104 + 4096) := (by rw [← HD.out]; simp; omega : D.length + ([z32] : List (List UInt8)).length ≤ 4398046511104 + 4096)
              have Z1 : Hid (w.heap.size ≤ (w4.alloc (.cells (bs z32) 36)).heap.size) := be1.size
              go_wp2_with (first | (at_builtin; refine wpList_appH rfl (.tmp 46) (.tmp 48) rfl w.heap.size (.slice (some ⟨g, 0, none⟩) d vc) D rfl O1.out ⟨w4.heap.size, 0, none⟩ 1 1 [z32] rfl rfl A1.out B1.out S1.out Z1.out ?_) | fail)
              intro v5 w5 own5 grow5 hv5
              have be5 : Below w.heap.size w w5 := be1.grown grow5 Z1.out (fun k hk => (World.ownsRow.lt O1.out.2 k hk).1)
              have hz5 : (D ++ [z32]).length = d + 1 := by rw [List.length_append, ← HD.out]; rfl
              obtain ⟨g5, c5, rfl, hc5, hm5, hg5, hbox5, hs5⟩ := own5.box (by omega)
              rw [hz5] at hc5 ⊢
              have HB5 : Hid (Box w5 g5 c5) := hbox5
              have HS5 : Hid (Hs w5 g5 0 (D ++ [z32])) := hs5
              have HF5 : Hid (Shf D (D ++ [z32]) d) := (by have := shf_zero HSr.out.2.1; rwa [← HD.out] at this : Shf D (D ++ [z32]) d)
              have HM5 : Hid (c5 ≤ maxLen) := hm5
              clear own5 grow5 hv5 hz5 hbox5 hs5 hm5 O1 B1 A1 S1 Z1 be1 OW4 bel4
              go_wp2
              go_loopw [6] (fun i wq => ∃ (m : Nat) (X : List (List UInt8)), t ≤ m ∧ m ≤ d ∧ i = .int .i64 m ∧ Hid (Shf D X m) ∧ Hid (Hs wq g5 0 X) ∧ Hid (Box wq g5 c5) ∧ Below w.heap.size w wq) (fun i _ => (intOf i).toNat)
              case atStart => exact ⟨d, D ++ [z32], by omega, Nat.le_refl _, by go_num, HF5, HS5, HB5, be5⟩
              case round =>
                clear HF5 HS5 HB5 be5 bel
                obtain ⟨m, X, htm, hmd, rfl, HF, HSx, HBx, bel⟩ := hrel
                by_cases hlt : t < m
                · obtain ⟨q, hq⟩ : ∃ q, D[m - 1]? = some q := ⟨_, List.getElem?_eq_getElem (by have := HD.out; omega)⟩
                  have hq32 := HSr.out.2.1.get hq
                  have SQ : Hid (wr.rangeAt g5 (32 * (m - 1)) (hcs q)) := (by have := HSx.out (m - 1) q ((HF.out.2.2.1 (m - 1) (by omega)).trans hq); rwa [Nat.zero_add] at this : wr.rangeAt g5 (32 * (m - 1)) (hcs q))
                  have ix1 : ∀ wx, (Instr.indexAt 37 (.slice (some ⟨g5, 0, none⟩) (d + 1) c5) (.int .i64 ((m : Int) - 1))).run Tryz.prog wx = .ok (.pointer (some ⟨g5, 32 * (m - 1), none⟩)) wx := fun wx => (by
                    have := indexH g5 0 (d + 1) c5 (m - 1) wx (by omega)
                    rwa [Nat.zero_add, show ((m - 1 : Nat) : Int) = (m : Int) - 1 by omega] at this)
                  have ix2 := fun wx => indexH g5 0 (d + 1) c5 m wx (by omega)
                  simp only [Nat.zero_add] at ix2
                  have hXl : X.length = d + 1 := by rw [HF.out.1, ← HD.out]
                  have HTm : Hid (wr.there g5 (32 * m) 32) := (by have := there_part (m := 32) (i := 32 * m) (HBx.out.there hc5) (by omega); rwa [Nat.zero_add] at this : wr.there g5 (32 * m) 32)
                  have HF2 : Hid (Shf D (X.set m q) (m - 1)) := shf_step HF.out (by omega) (by have := HD.out; omega) hq hq32
                  have HS2 : Hid (Hs (wr.setCells g5 (32 * m) (hcs q)) g5 0 (X.set m q)) := (by
                    have := Hs.set HSx.out HF.out.2.1 m q hq32 (by omega) (by rw [Nat.zero_add]; exact HTm.out)
                    rwa [Nat.zero_add] at this : Hs (wr.setCells g5 (32 * m) (hcs q)) g5 0 (X.set m q))
                  have HB2 : Hid (Box (wr.setCells g5 (32 * m) (hcs q)) g5 c5) := box_setCells g5 c5 _ _ _ HBx.out
                  have bel2 : Below w.heap.size w (wr.setCells g5 (32 * m) (hcs q)) := below_setCells bel hg5 _ _
                  clear hq HF HSx HBx hXl
                  go_wp2_with (first
                    | (refine wpList_load_mid rfl 36 _ rfl g5 (32 * (m - 1)) rfl (hcs q) _ SQ.out Tryz.underlying36 rfl (by rw [hcs_len, hq32]; exact hsH) ?_; rw [hcs_arr])
                    | (refine wpList_store_mid rfl 36 _ _ rfl g5 (32 * m) (bs q) rfl rfl (by rw [bs_size, hq32]; exact HTm.out) (by rw [bs_size, hq32]; exact hsH) (bs_one _) ?_)
                    | fail)
                  exact ⟨⟨m - 1, X.set m q, by omega, by omega, int_pred (by omega), HF2, HS2, HB2, bel2⟩, by simp [intOf]; omega⟩
                · obtain rfl : t = m := by omega
                  have SX5 : Hid (wr.rangeAt b (off + 32 * k) (hcs x)) := rangeAt_below SX0.out bel hbB
                  have ix2 := fun wx => indexH g5 0 (d + 1) c5 t wx (by omega)
                  simp only [Nat.zero_add] at ix2
                  have HTm : Hid (wr.there g5 (32 * t) 32) := (by have := there_part (m := 32) (i := 32 * t) (HBx.out.there hc5) (by omega); rwa [Nat.zero_add] at this : wr.there g5 (32 * t) 32)
                  have hXl : X.length = d + 1 := by rw [HF.out.1, ← HD.out]
                  have HI : Hid (X.set t x = ins D t x) := shf_end HF.out (by rw [← HD.out]; omega)
                  have hil : (ins D t x).length = d + 1 := by rw [ins_len, ← HD.out]
                  have HS2 : Hid (Hs (wr.setCells g5 (32 * t) (hcs x)) g5 0 (ins D t x)) := (by
                    have := Hs.set HSx.out HF.out.2.1 t x hx32 (by omega) (by rw [Nat.zero_add]; exact HTm.out)
                    rwa [Nat.zero_add, HI.out] at this : Hs (wr.setCells g5 (32 * t) (hcs x)) g5 0 (ins D t x))
                  have HI32 : Hid (All32 (ins D t x)) := all32_ins HSr.out.2.1 t hx32
                  have HO2 : Hid (OwnH (wr.setCells g5 (32 * t) (hcs x)) w.heap.size (.slice (some ⟨g5, 0, none⟩) (d + 1) c5) (ins D t x)) := (by
                    have := ownH_mk (base := w.heap.size) HI32.out (box_setCells g5 c5 _ _ _ HBx.out) (by rw [hil]; exact hc5) HM5.out hg5 HS2.out
                    rwa [hil] at this : OwnH (wr.setCells g5 (32 * t) (hcs x)) w.heap.size (.slice (some ⟨g5, 0, none⟩) (d + 1) c5) (ins D t x))
                  have HI1 : Hid (d + 1 = (ins D t x).length) := hil.symm
                  have HS3 : Hid (Srt (L.take (k + 1)) (ins D t x)) := srt_next HX.out HSr.out (srise_ins HSr.out.2.1 HSr.out.1 hx32 (by rw [← HD.out]; omega) HLo.out HHi.out) HI32.out (fun y => ins_mem D t x y)
                  have bel2 : Below w.heap.size w (wr.setCells g5 (32 * t) (hcs x)) := below_setCells bel hg5 _ _
                  clear HF HSx HBx hXl hil HI HS2
                  go_wp2_with (first
                    | (refine wpList_load_mid rfl 36 _ rfl b (off + 32 * k) rfl (hcs x) _ SX5.out Tryz.underlying36 rfl (by rw [hcs_len, hx32]; exact hsH) ?_; rw [hcs_arr])
                    | (refine wpList_store_mid rfl 36 _ _ rfl g5 (32 * t) (bs x) rfl rfl (by rw [bs_size, hx32]; exact HTm.out) (by rw [bs_size, hx32]; exact hsH) (bs_one _) ?_)
                    | fail)
                  exact ⟨⟨k + 1, ins D t x, some ⟨g5, 0, none⟩, c5, d + 1, by omega, by omega, by go_num, rfl, HI1, HO2, HS3, bel2⟩, by simp [intOf]; omega⟩
        · obtain rfl : t = d := by omega
          have hne : Nonempty (ExtT wr) := ExtT.some wr
          go_wp2_with fail
          refine wp_region_ext (by kernel_rfl) (by kernel_rfl) ?_
          repeat (go_big_quiet_step (fail))
          refine wpQuiet_nil ?_
          rintro w3 ⟨⟨_, bl3⟩, rfl⟩
          have O3 : Hid (OwnH w3 w.heap.size (.slice va t vc) D) := HOr.out.below bl3
          have bel3 : Below w.heap.size w w3 := bel.trans (bl3.mono bel.size)
          clear bl3 hne SX
          have hne : Nonempty (ExtT w3) := ExtT.some w3
          go_wp2_with fail
          refine wp_region_ext (by kernel_rfl) (by kernel_rfl) ?_
          repeat (go_big_quiet_step (fail))
          refine wpQuiet_nil ?_
          rintro w4 ⟨⟨_, bl4⟩, rfl⟩
          have OW4 : Hid (OwnH w4 w.heap.size (.slice va t vc) D) := O3.out.below bl4
          have bel4 : Below w.heap.size w w4 := bel3.trans (bl4.mono bel3.size)
          clear bl4 hne O3 bel3
          have HHi : Hid (∀ y, D[t]? = some y → cmpL x y < 0) := fun y hy => by have := (List.getElem?_eq_some_iff.1 hy).1; have := HD.out; omega
          have O1 : Hid (OwnH (w4.alloc (.cells (bs z32) 36)) w.heap.size (.slice va t vc) D) := OW4.out.below ((Below.refl _ _).alloc (Nat.le_refl _) _)
          have be1 : Below w.heap.size w (w4.alloc (.cells (bs z32) 36)) := bel4.alloc bel4.size _
          have B1 : Hid (Hl (w4.alloc (.cells (bs z32) 36)) (some ⟨w4.heap.size, 0, none⟩) [z32]) := hl_one w4
          have A1 : Hid (All32 [z32]) := (fun y h => by simp at h; subst h; exact z32_len : All32 [z32])
          have S1 : Hid (D.length + ([z32] : List (List UInt8)).length ≤ 4398046511104 + 4096) := (by rw [← HD.out]; simp; omega : D.length + ([z32] : List (List UInt8)).length ≤ 4398046511104 + 4096)
          have Z1 : Hid (w.heap.size ≤ (w4.alloc (.cells (bs z32) 36)).heap.size) := be1.size
          go_wp2_with (first | (at_builtin; refine wpList_appH rfl (.tmp 46) (.tmp 48) rfl w.heap.size (.slice va t vc) D rfl O1.out ⟨w4.heap.size, 0, none⟩ 1 1 [z32] rfl rfl A1.out B1.out S1.out Z1.out ?_) | fail)
          intro v5 w5 own5 grow5 hv5
          have be5 : Below w.heap.size w w5 := be1.grown grow5 Z1.out (fun k hk => (World.ownsRow.lt O1.out.2 k hk).1)
          have hz5 : (D ++ [z32]).length = t + 1 := by rw [List.length_append, ← HD.out]; rfl
          obtain ⟨g5, c5, rfl, hc5, hm5, hg5, hbox5, hs5⟩ := own5.box (by omega)
          rw [hz5] at hc5 ⊢
          have HB5 : Hid (Box w5 g5 c5) := hbox5
          have HS5 : Hid (Hs w5 g5 0 (D ++ [z32])) := hs5
          have HF5 : Hid (Shf D (D ++ [z32]) t) := (by have := shf_zero HSr.out.2.1; rwa [← HD.out] at this : Shf D (D ++ [z32]) t)
          have HM5 : Hid (c5 ≤ maxLen) := hm5
          clear own5 grow5 hv5 hz5 hbox5 hs5 hm5 O1 B1 A1 S1 Z1 be1 OW4 bel4
          go_wp2
          go_loopw [6] (fun i wq => ∃ (m : Nat) (X : List (List UInt8)), t ≤ m ∧ m ≤ t ∧ i = .int .i64 m ∧ Hid (Shf D X m) ∧ Hid (Hs wq g5 0 X) ∧ Hid (Box wq g5 c5) ∧ Below w.heap.size w wq) (fun i _ => (intOf i).toNat)
          case atStart => exact ⟨t, D ++ [z32], by omega, Nat.le_refl _, by go_num, HF5, HS5, HB5, be5⟩
          case round =>
            clear HF5 HS5 HB5 be5 bel
            obtain ⟨m, X, htm, hmd, rfl, HF, HSx, HBx, bel⟩ := hrel
            by_cases hlt : t < m
            · omega
            · obtain rfl : t = m := by omega
              have SX5 : Hid (wr.rangeAt b (off + 32 * k) (hcs x)) := rangeAt_below SX0.out bel hbB
              have ix2 := fun wx => indexH g5 0 (t + 1) c5 t wx (by omega)
              simp only [Nat.zero_add] at ix2
              have HTm : Hid (wr.there g5 (32 * t) 32) := (by have := there_part (m := 32) (i := 32 * t) (HBx.out.there hc5) (by omega); rwa [Nat.zero_add] at this : wr.there g5 (32 * t) 32)
              have hXl : X.length = t + 1 := by rw [HF.out.1, ← HD.out]
              have HI : Hid (X.set t x = ins D t x) := shf_end HF.out (by rw [← HD.out]; omega)
              have hil : (ins D t x).length = t + 1 := by rw [ins_len, ← HD.out]
              have HS2 : Hid (Hs (wr.setCells g5 (32 * t) (hcs x)) g5 0 (ins D t x)) := (by
                have := Hs.set HSx.out HF.out.2.1 t x hx32 (by omega) (by rw [Nat.zero_add]; exact HTm.out)
                rwa [Nat.zero_add, HI.out] at this : Hs (wr.setCells g5 (32 * t) (hcs x)) g5 0 (ins D t x))
              have HI32 : Hid (All32 (ins D t x)) := all32_ins HSr.out.2.1 t hx32
              have HO2 : Hid (OwnH (wr.setCells g5 (32 * t) (hcs x)) w.heap.size (.slice (some ⟨g5, 0, none⟩) (t + 1) c5) (ins D t x)) := (by
                have := ownH_mk (base := w.heap.size) HI32.out (box_setCells g5 c5 _ _ _ HBx.out) (by rw [hil]; exact hc5) HM5.out hg5 HS2.out
                rwa [hil] at this : OwnH (wr.setCells g5 (32 * t) (hcs x)) w.heap.size (.slice (some ⟨g5, 0, none⟩) (t + 1) c5) (ins D t x))
              have HI1 : Hid (t + 1 = (ins D t x).length) := hil.symm
              have HS3 : Hid (Srt (L.take (k + 1)) (ins D t x)) := srt_next HX.out HSr.out (srise_ins HSr.out.2.1 HSr.out.1 hx32 (by rw [← HD.out]; omega) HLo.out HHi.out) HI32.out (fun y => ins_mem D t x y)
              have bel2 : Below w.heap.size w (wr.setCells g5 (32 * t) (hcs x)) := below_setCells bel hg5 _ _
              clear HF HSx HBx hXl hil HI HS2
              go_wp2_with (first
                | (refine wpList_load_mid rfl 36 _ rfl b (off + 32 * k) rfl (hcs x) _ SX5.out Tryz.underlying36 rfl (by rw [hcs_len, hx32]; exact hsH) ?_; rw [hcs_arr])
                | (refine wpList_store_mid rfl 36 _ _ rfl g5 (32 * t) (bs x) rfl rfl (by rw [bs_size, hx32]; exact HTm.out) (by rw [bs_size, hx32]; exact hsH) (bs_one _) ?_)
                | fail)
              exact ⟨⟨k + 1, ins D t x, some ⟨g5, 0, none⟩, c5, t + 1, by omega, by omega, by go_num, rfl, HI1, HO2, HS3, bel2⟩, by simp [intOf]; omega⟩
    · obtain rfl : k = n := by omega
      have HE : Hid (Srt L D) := (by have := HSr.out; rwa [HN.out, List.take_length] at this : Srt L D)
      go_wp2
      go_ret
      exact ⟨_, D, rfl, HE.out, HOr.out, bel⟩
end Go.Proofs.YtdnocpngdepbgaaGreatDoor

namespace Go.Proofs.YtdnocpngdepbgaaGreatDoor
open Go.RowKit
set_option linter.unusedVariables false
set_option linter.unusedSimpArgs false

/-- A slice literal of one hash. -/
theorem wpList_bsH {ops : Array Oper} {rest : List Oper} {o : Oper} {a : Act} {w : World} {Q : Exit → Act → World → Prop} (hg : o.guard = none) (x : Operand) (ho : o.op = .buildSlice 37 1 #[(0, x)])
    (C : Array Value) (hx : a.eval x = .agg C) (hC : C.size = 32)
    (h : wpList Tryz.prog ops Q rest (a.put o.dst (.slice (some ⟨w.heap.size, 0, none⟩) 1 1)) (w.alloc (.cells C 36))) : wpList Tryz.prog ops Q (o :: rest) a w := by
  obtain ⟨ie, hi, hz, hs, hby⟩ := infoH
  refine wpList_buildSlice hg 37 36 1 #[(0, x)] ho C ie _ Tryz.underlying37 hi hz (by rw [hs]; decide) (by rw [hs]; decide) ?_ h
  rw [hs]
  have := Go.Great.fill_whole (s := 32) (by decide) [.agg C] ((Array.range (1 * 32)).map ((Value.agg (bs z32)).cells[· % (Value.agg (bs z32)).cells.size]!)) (by intro v hv; simp at hv; subst hv; exact hC) (by simp)
  simp only [List.map_toArray, List.map_cons, List.map_nil, hx]
  simpa [Value.cells] using this
theorem hl_lit (w : World) (x : List UInt8) : Hl (w.alloc (.cells (bs x) 36)) (some ⟨w.heap.size, 0, none⟩) [x] := by
  refine .inr ⟨w.heap.size, 0, rfl, fun i y e => ?_⟩
  obtain ⟨rfl, rfl⟩ : i = 0 ∧ y = x := by
    match i, e with
    | 0, e => simp at e; exact ⟨rfl, e.symm⟩
  intro j v hv
  rw [Nat.mul_zero, Nat.add_zero, Nat.zero_add, cell_of_row _ w.heap.size j (bs y) _ (0, 0) (heap_alloc_new _ _)]
  simpa [hcs] using hv
variable {T : TypeId} {r cap : Nat} {a : Option Addr} {L : List UInt8} {s : K.St}
set_option maxRecDepth 100000 in
set_option maxHeartbeats 4000000 in
theorem qhashes_fit (most : Int) (hm : most < 9223372036854775808) (w : World) (h : K.RD w T r a cap L s) (hb : s.bad = 0) (n sz : Nat) (pl : Int) (hNum : K.num L s.k = ⟨n, sz, 0, pl⟩) (hDm : (n : Int) ≤ most) (hfit : s.k + sz + n * 32 ≤ L.length) :
    Calls Tryz.prog 93 #[.pointer (some ⟨r, 0, none⟩), .int .i64 most] w fun e w' => (∃ v, e = .returned v ∧ OwnH w' w.heap.size v (dch L (s.k + sz) n) ∧ SRise (dch L (s.k + sz) n) ∧ K.On w w' T r a cap L ⟨s.k + sz + n * 32, s.bad, s.wh⟩) ∨ (e = .returned (.slice none 0 0) ∧ ∃ i, Brk (dch L (s.k + sz) n) i ∧ K.On w w' T r a cap L ⟨s.k, 21, (s.k : Int) + (sz : Int) + (i : Int) * 32⟩) := by
  obtain ⟨D, hDd⟩ : ∃ D, D = dch L (s.k + sz) n := ⟨_, rfl⟩
  have hD : All32 D := by rw [hDd]; exact dch_32 _ _ _ hfit
  have HN : Hid (n = D.length) := by show _ = _; rw [hDd, dch_len]
  have HB : Hid (∀ k x, D[k]? = some x → ((L.drop (s.k + sz + k * 32)).take 32) = x) := fun k x hx => by
    have hk : k < n := by have := (List.getElem?_eq_some_iff.1 hx).1; rw [← HN.out] at this; exact this
    rw [hDd, dch_get _ _ _ _ hk] at hx
    exact Option.some.inj hx
  rw [← hDd]
  clear hDd
  have hfw := h.few
  have HF : Hid (s.k + sz + n * 32 ≤ L.length) := hfit
  have hnb : n ≤ 4398046510976 := by omega
  have HC := K.Hid.mk' (K.qlen_yes32 most hm w h hb n sz pl hNum hDm hfit)
  have HR : Hid (K.RD w T r a cap L s) := h
  have hsk : s.k ≤ L.length := h.at_le
  clear h hNum
  have O0 : Hid (OwnH w w.heap.size (.slice none 0 0) (D.take 0)) := by show OwnH _ _ _ _; rw [List.take_zero]; exact OwnH.nil _ _
  go_enter Tryz.func93, Tryz.ntmps93
  go_wp2_with fail
  refine HC.out.mono ?_
  rintro e w1 ⟨rfl, on1⟩
  have HO1 : Hid (K.On w w1 T r a cap L s) := on1
  have O1 : Hid (OwnH w1 w.heap.size (.slice none 0 0) (D.take 0)) := by show OwnH _ _ _ _; rw [List.take_zero]; exact OwnH.nil _ _
  clear on1 HC O0
  go_wp2
  go_loopw [8, 9] (fun v i wr => ∃ (k : Nat) (va : Option Addr) (vc : Nat), k ≤ n ∧ v = .slice va k vc ∧ i = .int .i64 k ∧ Hid (OwnH wr w.heap.size (.slice va k vc) (D.take k)) ∧ Hid (K.On w wr T r a cap L s) ∧ Hid (∀ j x y, j + 1 < k → D[j]? = some x → D[j + 1]? = some y → cmpL x y < 0)) (fun _ i _ => n - (intOf i).toNat)
  case atStart => exact ⟨0, none, 0, by omega, rfl, rfl, O1, HO1, fun j x y h => by omega⟩
  case round =>
    clear O1 HO1
    obtain ⟨k, va, vc, hk, rfl, rfl, HOr, HOn, HAdj⟩ := hrel
    by_cases hkn : k < n
    · have hkn' : (k : Int) < (n : Int) := by omega
      have hkD : k < D.length := by rw [← HN.out]; exact hkn
      obtain ⟨x, hx⟩ : ∃ x, D[k]? = some x := ⟨_, List.getElem?_eq_getElem hkD⟩
      have hx32 := hD.get hx
      have HXK := K.Hid.mk' hx
      have hfit2 := HF.out
      have HQ : Hid (Calls Tryz.prog 126 #[.pointer (some ⟨r, 0, none⟩), .int .i64 ((s.k : Int) + (sz : Int) + 32 * (k : Int))] wr fun e w' => e = .returned (.agg (bs x)) ∧ Below wr.heap.size wr w') := by
        show Calls _ _ _ _ _
        have := qhash_at (s.k + sz + k * 32) wr HOn.out.1 (by omega)
        rw [HB.out k x hx, show ((s.k + sz + k * 32 : Nat) : Int) = (s.k : Int) + (sz : Int) + 32 * (k : Int) by omega] at this
        exact this
      clear hx hkD
      go_wp2_with fail
      refine HQ.out.mono ?_
      rintro e w2 ⟨rfl, bl2⟩
      obtain ⟨w3, hw3⟩ : ∃ w3, w3 = w2.alloc (.cells (bs x) 36) := ⟨_, rfl⟩
      have be3 : Below w2.heap.size w2 w3 := by rw [hw3]; exact (Below.refl _ _).alloc (Nat.le_refl _) _
      have G3 : Hid (w3.heap[w2.heap.size]? = some (.cells (bs x) 36 (0, 0))) := by show _ = _; rw [hw3]; exact heap_alloc_new _ _
      have HX : Hid (OwnH w3 w.heap.size (.slice va k vc) (D.take k)) := (HOr.out.below bl2).below be3
      have HO3 : Hid (K.On w w3 T r a cap L s) := on_below HR.out (on_below HR.out HOn.out bl2 HOn.out.2.size) be3 (Nat.le_trans HOn.out.2.size bl2.size)
      have hq3 : w2.heap.size < w3.heap.size := by rw [hw3]; simp
      have HW3 := K.Hid.mk' hw3
      clear bl2 be3 hw3 HOr HOn HQ
      generalize hq : w2.heap.size = q at *
      go_upto_region 9 with (first
        | (refine wpList_alloc_row rfl 36 rfl (bs z32) (hzH _) ?_)
        | (refine wpList_store_row rfl 36 _ _ rfl w2.heap.size (bs x) rfl rfl 36 (bs z32) (heap_alloc_new _ _) (by rw [bs_size, hx32]; exact hsH) (by rw [bs_size, bs_size, hx32]; rfl) (bs_one _) ?_; rw [World.setRow_alloc_new, ← HW3.out])
        | fail)
      simp only [Act.put, List.setIfInBounds_toArray, List.set_cons_zero, List.set_cons_succ]
      rw [hq]
      clear HW3 hq
      by_cases hk0 : k = 0
      · have gk : decide (0 < k) = false := by simp; omega
        have HK1 : Hid (∀ j x y, j + 1 < k + 1 → D[j]? = some x → D[j + 1]? = some y → cmpL x y < 0) := fun j x y hj => by omega
        clear hk0
        have hne : Nonempty (ExtT w3) := ExtT.some w3
        refine wp_region_ext (by kernel_rfl) (by kernel_rfl) ?_
        repeat (go_big_quiet_step (fail))
        refine wpQuiet_nil ?_
        rintro w4 ⟨⟨_, bl4⟩, rfl⟩
        have A1 : Hid (OwnH w4 w.heap.size (.slice va k vc) (D.take k)) := HX.out.below bl4
        have A3 : Hid (K.On w w4 T r a cap L s) := on_below HR.out HO3.out bl4 HO3.out.2.size
        have G4 : Hid (w4.heap[q]? = some (.cells (bs x) 36 (0, 0))) := (bl4.block q hq3).trans G3.out
        obtain ⟨W5, hW5⟩ : ∃ W5, W5 = w4.alloc (.cells (bs x) 36) := ⟨_, rfl⟩
        have be5 : Below w4.heap.size w4 W5 := by rw [hW5]; exact (Below.refl _ _).alloc (Nat.le_refl _) _
        have O5 : Hid (OwnH W5 w.heap.size (.slice va k vc) (D.take k)) := A1.out.below be5
        have M5 : Hid (Hl W5 (some ⟨w4.heap.size, 0, none⟩) [x]) := by show Hl _ _ _; rw [hW5]; exact hl_lit w4 x
        have X5 : Hid (All32 [x]) := fun y hy => by simp at hy; subst hy; exact hx32
        have S5 : Hid ((D.take k).length + ([x] : List (List UInt8)).length ≤ 4398046511104 + 4096) := by show _ ≤ _; rw [List.length_take, ← HN.out]; simp; omega
        have B5 : Hid (w.heap.size ≤ W5.heap.size) := by show _ ≤ _; have := A3.out.2.size; have := be5.size; omega
        have N5 : Hid (K.On w W5 T r a cap L s) := on_below HR.out A3.out be5 A3.out.2.size
        have TK : Hid (D.take k ++ [x] = D.take (k + 1)) := by show _ = _; rw [List.take_add_one, HXK.out]; rfl
        have HW5 := K.Hid.mk' hW5
        clear bl4 hne HX G3 HO3 hq3 be5 hW5 A1 A3 gk
        go_wp2_with (first
          | (refine wpList_load_arr rfl 36 _ rfl q rfl 36 (bs x) (0, 0) _ G4.out Tryz.underlying36 rfl (by rw [bs_size, hx32]; exact hsH) ?_)
          | (refine wpList_bsH rfl _ rfl (bs x) rfl (by rw [bs_size, hx32]) ?_; rw [← HW5.out])
          | (at_builtin; refine wpList_appH rfl (.tmp 49) (.tmp 51) rfl w.heap.size (.slice va k vc) (D.take k) rfl O5.out ⟨w4.heap.size, 0, none⟩ 1 1 [x] rfl rfl X5.out M5.out S5.out B5.out ?_)
          | fail)
        intro v6 w6 own6 gr6 _
        have be6 : Below w.heap.size W5 w6 := (Below.refl _ _).grown gr6 B5.out (fun b hb => (World.ownsRow.lt O5.out.2 b hb).1)
        have A6 : Hid (K.On w w6 T r a cap L s) := on_below HR.out N5.out be6 (Nat.le_refl _)
        rw [TK.out] at own6
        obtain ⟨va6, vc6, e6⟩ := own6.size
        have hl6 : (D.take (k + 1)).length = k + 1 := by rw [List.length_take, ← HN.out]; omega
        rw [hl6] at e6
        subst e6
        have O6 := K.Hid.mk' own6
        clear own6 gr6 be6 O5 M5 X5 S5 B5 N5 TK HW5 G4 hl6
        go_wp2
        exact ⟨⟨k + 1, va6, vc6, by omega, rfl, by go_num, O6, A6, fun j x y hj => HK1.out j x y hj⟩, by simp [intOf]; omega⟩
      · obtain ⟨p, hp⟩ : ∃ p, D[k - 1]? = some p := ⟨_, List.getElem?_eq_getElem (by rw [← HN.out]; omega)⟩
        have hp32 := hD.get hp
        have HCm : Hid (∀ wx, Calls Tryz.prog 127 #[.agg (bs p), .agg (bs x)] wx fun e w' => e = .returned (.int .i64 (cmpL p x)) ∧ Below wx.heap.size wx w') := fun wx => rcmp_any p x hp32 hx32 wx
        obtain ⟨g, rfl, hsg⟩ : ∃ g, va = some ⟨g, 0, none⟩ ∧ Hs w3 g 0 (D.take k) := by
          obtain ⟨g, cg, hvg, _, _, _, _, hsg⟩ := HX.out.box (by rw [List.length_take, ← HN.out]; omega)
          simp only [Value.slice.injEq] at hvg
          exact ⟨g, hvg.1, hsg⟩
        have S1 : Hid (w3.rangeAt g (32 * (k - 1)) (hcs p)) := (by have := hsg (k - 1) p (by rw [List.getElem?_take, if_pos (by omega)]; exact hp); rwa [Nat.zero_add] at this : w3.rangeAt g (32 * (k - 1)) (hcs p))
        have S2 : Hid (w3.rangeAt q 0 (hcs x)) := fun j v hv => by
          rw [Nat.zero_add, cell_of_row w3 q j (bs x) _ (0, 0) G3.out]
          simpa [hcs] using hv
        have ix2 : ∀ wx, (Instr.indexAt 37 (.slice (some ⟨g, 0, none⟩) k vc) (.int .i64 ((k : Int) - 1))).run Tryz.prog wx = .ok (.pointer (some ⟨g, 32 * (k - 1), none⟩)) wx := fun wx => (by
          have := indexH g 0 k vc (k - 1) wx (by omega)
          rwa [Nat.zero_add, show ((k - 1 : Nat) : Int) = (k : Int) - 1 by omega] at this)
        have wk : IntKind.i64.wrap ((k : Int) - 1) = (k : Int) - 1 := by simp only [IntKind.wrap, IntKind.bits, IntKind.signed]; simp; omega
        have wk2 : wrap64 ((k : Int) - 1) = (k : Int) - 1 := (by unfold wrap64; omega)
        have gk : 0 < k := by omega
        by_cases hcl : cmpL p x < 0
        · have HK1 : Hid (∀ j x y, j + 1 < k + 1 → D[j]? = some x → D[j + 1]? = some y → cmpL x y < 0) := fun j u v hj hu hv => by
            by_cases ej : j + 1 = k
            · rw [show j = k - 1 by omega, hp] at hu
              rw [ej, HXK.out] at hv
              cases hu
              cases hv
              exact hcl
            · exact HAdj.out j u v (by omega) hu hv
          generalize cmpL p x = c at *
          have gc : ¬ (0 : Int) ≤ c := by omega
          clear hp hcl hk0 hsg
          have hne : Nonempty (ExtT w3) := ExtT.some w3
          refine wp_region_ext (by kernel_rfl) (by kernel_rfl) ?_
          repeat (first
            | (go_big_quiet_want; refine quiet_load_mid 36 _ rfl g (32 * (k - 1)) rfl (bs p) _ (by rintro _ ⟨e, rfl⟩; exact e.range S1.out (hcs_pos hp32)) Tryz.underlying36 rfl (sizeH hp32) ?_; simp only [Act.put, List.setIfInBounds_toArray, List.set_cons_zero, List.set_cons_succ]; go_big_quiet_on)
            | (go_big_quiet_want; refine quiet_load_mid 36 _ rfl q 0 rfl (bs x) _ (by rintro _ ⟨e, rfl⟩; exact e.range S2.out (hcs_pos hx32)) Tryz.underlying36 rfl (sizeH hx32) ?_; simp only [Act.put, List.setIfInBounds_toArray, List.set_cons_zero, List.set_cons_succ]; go_big_quiet_on)
            | go_big_quiet_step (first | (go_at_call 127; exact ext_of (HCm.out _)) | fail))
          refine wpQuiet_nil ?_
          rintro w4 ⟨⟨_, bl4⟩, rfl⟩
          have A1 : Hid (OwnH w4 w.heap.size (.slice (some ⟨g, 0, none⟩) k vc) (D.take k)) := HX.out.below bl4
          have A3 : Hid (K.On w w4 T r a cap L s) := on_below HR.out HO3.out bl4 HO3.out.2.size
          have G4 : Hid (w4.heap[q]? = some (.cells (bs x) 36 (0, 0))) := (bl4.block q hq3).trans G3.out
          obtain ⟨W5, hW5⟩ : ∃ W5, W5 = w4.alloc (.cells (bs x) 36) := ⟨_, rfl⟩
          have be5 : Below w4.heap.size w4 W5 := by rw [hW5]; exact (Below.refl _ _).alloc (Nat.le_refl _) _
          have O5 : Hid (OwnH W5 w.heap.size (.slice (some ⟨g, 0, none⟩) k vc) (D.take k)) := A1.out.below be5
          have M5 : Hid (Hl W5 (some ⟨w4.heap.size, 0, none⟩) [x]) := by show Hl _ _ _; rw [hW5]; exact hl_lit w4 x
          have X5 : Hid (All32 [x]) := fun y hy => by simp at hy; subst hy; exact hx32
          have S5 : Hid ((D.take k).length + ([x] : List (List UInt8)).length ≤ 4398046511104 + 4096) := by show _ ≤ _; rw [List.length_take, ← HN.out]; simp; omega
          have B5 : Hid (w.heap.size ≤ W5.heap.size) := by show _ ≤ _; have := A3.out.2.size; have := be5.size; omega
          have N5 : Hid (K.On w W5 T r a cap L s) := on_below HR.out A3.out be5 A3.out.2.size
          have TK : Hid (D.take k ++ [x] = D.take (k + 1)) := by show _ = _; rw [List.take_add_one, HXK.out]; rfl
          have HW5 := K.Hid.mk' hW5
          clear bl4 hne HX G3 HO3 hq3 be5 hW5 A1 A3 wk wk2 S1 S2 HCm ix2
          go_wp2_with (first
            | (refine wpList_load_arr rfl 36 _ rfl q rfl 36 (bs x) (0, 0) _ G4.out Tryz.underlying36 rfl (by rw [bs_size, hx32]; exact hsH) ?_)
            | (refine wpList_bsH rfl _ rfl (bs x) rfl (by rw [bs_size, hx32]) ?_; rw [← HW5.out])
            | (at_builtin; refine wpList_appH rfl (.tmp 49) (.tmp 51) rfl w.heap.size (.slice (some ⟨g, 0, none⟩) k vc) (D.take k) rfl O5.out ⟨w4.heap.size, 0, none⟩ 1 1 [x] rfl rfl X5.out M5.out S5.out B5.out ?_)
            | fail)
          intro v6 w6 own6 gr6 _
          have be6 : Below w.heap.size W5 w6 := (Below.refl _ _).grown gr6 B5.out (fun b hb => (World.ownsRow.lt O5.out.2 b hb).1)
          have A6 : Hid (K.On w w6 T r a cap L s) := on_below HR.out N5.out be6 (Nat.le_refl _)
          rw [TK.out] at own6
          obtain ⟨va6, vc6, e6⟩ := own6.size
          have hl6 : (D.take (k + 1)).length = k + 1 := by rw [List.length_take, ← HN.out]; omega
          rw [hl6] at e6
          subst e6
          have O6 := K.Hid.mk' own6
          clear own6 gr6 be6 O5 M5 X5 S5 B5 N5 TK HW5 G4 hl6
          go_wp2
          exact ⟨⟨k + 1, va6, vc6, by omega, rfl, by go_num, O6, A6, fun j x y hj => HK1.out j x y hj⟩, by simp [intOf]; omega⟩
        · have BRK : Hid (Brk D k) := ⟨p, x, by omega, hp, HXK.out, hcl, HAdj.out⟩
          generalize cmpL p x = c at *
          have gc : (0 : Int) ≤ c := by omega
          clear hp hcl hk0 hsg
          have hne : Nonempty (ExtT w3) := ExtT.some w3
          refine wp_region_ext (by kernel_rfl) (by kernel_rfl) ?_
          repeat (first
            | (go_big_quiet_want; refine quiet_load_mid 36 _ rfl g (32 * (k - 1)) rfl (bs p) _ (by rintro _ ⟨e, rfl⟩; exact e.range S1.out (hcs_pos hp32)) Tryz.underlying36 rfl (sizeH hp32) ?_; simp only [Act.put, List.setIfInBounds_toArray, List.set_cons_zero, List.set_cons_succ]; go_big_quiet_on)
            | (go_big_quiet_want; refine quiet_load_mid 36 _ rfl q 0 rfl (bs x) _ (by rintro _ ⟨e, rfl⟩; exact e.range S2.out (hcs_pos hx32)) Tryz.underlying36 rfl (sizeH hx32) ?_; simp only [Act.put, List.setIfInBounds_toArray, List.set_cons_zero, List.set_cons_succ]; go_big_quiet_on)
            | go_big_quiet_step (first | (go_at_call 127; exact ext_of (HCm.out _)) | fail))
          refine wpQuiet_nil ?_
          rintro w4 ⟨⟨_, bl4⟩, rfl⟩
          have A3 : Hid (K.On w w4 T r a cap L s) := on_below HR.out HO3.out bl4 HO3.out.2.size
          have HKp := K.Hid.mk' (K.qfail_on (a := a) (cap := cap) (L := L) (T := T) (r := r) w hb 21 ((s.k : Int) + (sz : Int) + 32 * (k : Int)) (by decide))
          have hfit3 := HF.out
          clear bl4 hne HX HO3 hq3 wk wk2 S1 S2 HCm ix2 G3
          go_wp2_with fail
          refine (HKp.out _ A3.out).mono ?_
          rintro e w5 ⟨rfl, ho⟩
          have HO2 := K.Hid.mk' ho
          clear ho HKp A3
          go_wp2
          go_ret
          exact .inr ⟨rfl, k, BRK.out, by rw [show (s.k : Int) + (sz : Int) + (k : Int) * 32 = (s.k : Int) + (sz : Int) + 32 * (k : Int) by omega]; exact HO2.out⟩
    · obtain rfl : k = n := by omega
      have c1 := HOn.out.1.c1
      have fz := HOn.out.1.fz 1
      have HSR : Hid (SRise D) := srise_adj hD (fun j x y hx hy => HAdj.out j x y (by have := (List.getElem?_eq_some_iff.1 hy).1; rw [← HN.out] at this; omega) hx hy)
      have eD : D.take k = D := by rw [List.take_of_length_le]; rw [← HN.out]; exact Nat.le_refl _
      rw [eD] at HOr
      have hfit3 := HF.out
      have HO9 : Hid (K.On w (wr.setCell ⟨r, 1, none⟩ (.int .i64 ((s.k : Int) + (sz : Int) + 32 * (k : Int)))) T r a cap L ⟨s.k + sz + k * 32, s.bad, s.wh⟩) := HOn.out.set1 (s.k + sz + k * 32) _ (by omega) (by omega)
      have hrl := HR.out.lt
      have HOW : Hid (OwnH (wr.setCell ⟨r, 1, none⟩ (.int .i64 ((s.k : Int) + (sz : Int) + 32 * (k : Int)))) w.heap.size (.slice va k vc) D) := by
        refine ⟨HOr.out.1, HOr.out.2.1, ?_⟩
        rcases HOr.out.2.2 with hn | ⟨g, cap', cur, e, hbg, hg, rest⟩
        · exact .inl hn
        · exact .inr ⟨g, cap', cur, e, hbg, (Below.heap_setCell _ _ _ _ (by show g ≠ r; omega)).trans hg, rest⟩
      clear HOr HOn eD hrl
      go_wp2
      go_ret
      exact .inl ⟨_, rfl, HOW.out, HSR.out, HO9.out⟩
end Go.Proofs.YtdnocpngdepbgaaGreatDoor

namespace Go.Proofs.YtdnocpngdepbgaaGreatDoor.K
open Go.RowKit
set_option linter.unusedVariables false
set_option linter.unusedSimpArgs false

open Classical in
noncomputable def rRawX (L : List UInt8) (most : Int) (s : St) : List UInt8 × St :=
  if s.bad = 0 then (if Fits L s.k most 1 then (cut L (s.k + (num L s.k).size) (num L s.k).v, ⟨s.k + (num L s.k).size + (num L s.k).v, s.bad, s.wh⟩) else ([], sNo L most s)) else ([], s)
open Classical in
noncomputable def rTextX (L : List UInt8) (most : Int) (s : St) : List UInt8 × St :=
  if s.bad = 0 then (if Fits L s.k most 1 then (if good (cut L (s.k + (num L s.k).size) (num L s.k).v) < (num L s.k).v then ([], ⟨s.k, 21, (s.k : Int) + ((num L s.k).size : Int) + (good (cut L (s.k + (num L s.k).size) (num L s.k).v) : Int)⟩) else (cut L (s.k + (num L s.k).size) (num L s.k).v, ⟨s.k + (num L s.k).size + (num L s.k).v, s.bad, s.wh⟩)) else ([], sNo L most s)) else ([], s)
theorem own0 (W : World) : OwnB (W.alloc (.cells #[] 5)) W.heap.size (.slice (some ⟨W.heap.size, 0, none⟩) 0 0) [] := ⟨rfl, .inr ⟨W.heap.size, 0, #[], rfl, Nat.le_refl _, heap_alloc_new _ _, by simp, by simp [maxLen], rfl, rfl⟩⟩
theorem below0 (W : World) : Below W.heap.size W (W.alloc (.cells #[] 5)) := (Below.refl _ _).alloc (Nat.le_refl _) _
theorem byt_str {w : World} {ad : Option Addr} {n cap : Nat} {l : List UInt8} (hn : l.length = n) (hp : ∀ x, ad = some x → x.spot = none) (h : Byt w ad l) : (convert 25 9 (.slice ad n cap)).run Tryz.prog w = .ok (.string ⟨l.toArray⟩) w := by
  cases ad with
  | none =>
    rcases h with rfl | ⟨b, off, e, _⟩
    · subst hn
      rw [run_convert_bytes_string w 25 9 5 none _ cap Tryz.underlying25 Tryz.underlying5 Tryz.underlying9]
      rfl
    · cases e
  | some x =>
    obtain ⟨b, off, p⟩ := x
    have := hp _ rfl
    simp only at this
    subst this
    exact byt_string hn h
variable {T : TypeId} {r cap : Nat} {a : Option Addr} {L : List UInt8} {s : St}
set_option maxRecDepth 100000 in
set_option maxHeartbeats 2000000 in
theorem qraw_x (most : Int) (hm0 : -9223372036854775808 ≤ most) (hm : most < 9223372036854775808) (w : World) (h : RD w T r a cap L s) :
    Calls Tryz.prog 91 #[.pointer (some ⟨r, 0, none⟩), .int .i64 most] w fun e w' => ∃ v base, e = .returned v ∧ w.heap.size ≤ base ∧ OwnB w' base v (rRawX L most s).1 ∧ On w w' T r a cap L (rRawX L most s).2 := by
  by_cases hb : s.bad = 0
  · by_cases hq : Fits L s.k most 1
    · have hE : rRawX L most s = (cut L (s.k + (num L s.k).size) (num L s.k).v, ⟨s.k + (num L s.k).size + (num L s.k).v, s.bad, s.wh⟩) := by unfold rRawX; rw [if_pos hb, if_pos hq]
      rw [hE]
      obtain ⟨h1, h2, h3, h4⟩ := hq
      have hok := num_ok L s.k h.at_le
      rcases hN : num L s.k with ⟨n, hd, why, pl⟩
      rw [hN] at h1 h3 h4 hok
      simp only at h1 h3 h4 hok ⊢
      subst h1
      obtain ⟨k1, k2, k3⟩ := hok.1 rfl
      simp only [Nat.mul_one] at h4
      have HC := Hid.mk' (qlen_yes1 most hm w h hb n hd pl hN h3 (by omega))
      have hq : True := trivial
      clear hok hN
      have hf := h.few
      have hr := h.room
      have HCut := Hid.mk' (fun (wx : World) (s2 : St) (hx : On w wx T r a cap L s2) => hx.1.cut (s.k + hd) n)
      have hlen := cut_len L (s.k + hd) n (by omega)
      have s1 := sl_mid a L.length cap (s.k + hd) (s.k + hd + n) ((s.k : Int) + (hd : Int)) ((s.k : Int) + (hd : Int) + (n : Int)) (by omega) (by omega) (by omega) (by omega)
      have s2 := sl_mid' a L.length cap (s.k + hd) (s.k + hd + n) ((s.k : Int) + (hd : Int)) ((s.k : Int) + (hd : Int) + (n : Int)) (by omega) (by omega) (by omega) (by omega)
      rw [Nat.add_sub_cancel_left] at s1 s2
      clear h hE hq
      generalize from23 a cap (s.k + hd) = a4 at *
      generalize cap - (s.k + hd) = c4 at *
      generalize cut L (s.k + hd) n = tx at *
      go_enter Tryz.func91, Tryz.ntmps91
      go_wp2_with fail
      refine HC.out.mono ?_
      rintro e w2 ⟨rfl, ho⟩
      have HZ : Hid (w.heap.size ≤ w2.heap.size) := ho.2.size
      have f1 := ho.1.fz 1
      have c1 := ho.1.c1
      have HO2 := Hid.mk' (ho.set1 (s.k + hd + n) ((s.k : Int) + (hd : Int) + (n : Int)) (by omega) (by omega))
      clear ho
      have hz2 : (w2.setCell ⟨r, 1, none⟩ (.int .i64 ((s.k : Int) + (hd : Int) + (n : Int)))).heap.size = w2.heap.size := by simp
      have O0 := Hid.mk' (own0 (w2.setCell ⟨r, 1, none⟩ (.int .i64 ((s.k : Int) + (hd : Int) + (n : Int)))))
      have hbe := below0 (w2.setCell ⟨r, 1, none⟩ (.int .i64 ((s.k : Int) + (hd : Int) + (n : Int))))
      have B0 := Hid.mk' (byt_below (HCut.out _ _ HO2.out) hbe)
      have S0 : Hid (([] : List UInt8).length + tx.length ≤ 140737488355328) := by show _ ≤ _; simp; omega
      have Z0 := Hid.mk' hbe.size
      have d0 := HO2.out.1.c0
      have d0' := (HO2.out.below hbe).1.c0
      rw [hz2] at O0 Z0
      clear hbe hz2
      go_wp2_with (first | (at_builtin; refine wpList_app rfl (.tmp 23) (.tmp 32) rfl w2.heap.size (.slice (some ⟨w2.heap.size, 0, none⟩) 0 0) [] rfl O0.out a4 n c4 tx rfl hlen B0.out S0.out Z0.out ?_) | fail)
      intro v w3 own3 gr3
      have own3' : OwnB w3 w2.heap.size v tx := by simpa using own3
      have be3 : Below w2.heap.size (w2.setCell ⟨r, 1, none⟩ (.int .i64 ((s.k : Int) + (hd : Int) + (n : Int)))) w3 := ((below0 (w2.setCell ⟨r, 1, none⟩ (.int .i64 ((s.k : Int) + (hd : Int) + (n : Int))))).mono (by simp)).grown gr3 Z0.out (fun k hk => (World.ownsRow.lt O0.out k hk).1)
      have hz2 : (w2.setCell ⟨r, 1, none⟩ (.int .i64 ((s.k : Int) + (hd : Int) + (n : Int)))).heap.size = w2.heap.size := by simp
      rw [← hz2] at be3
      have HO3 := Hid.mk' (HO2.out.below be3)
      have HOW := Hid.mk' own3'
      clear own3 own3' gr3 be3 O0 B0 S0 Z0
      go_wp2
      go_ret
      exact ⟨_, _, rfl, HZ.out, HOW.out, HO3.out⟩
    · have hE : rRawX L most s = ([], sNo L most s) := by unfold rRawX; rw [if_pos hb, if_neg hq]
      rw [hE]
      have HC := Hid.mk' (qlen_no1 most hm0 hm w h hb hq)
      clear h hE hq
      go_enter Tryz.func91, Tryz.ntmps91
      go_wp2_with fail
      refine HC.out.mono ?_
      rintro e w2 ⟨rfl, ho⟩
      have HO := Hid.mk' ho
      clear ho
      go_wp2
      go_ret
      exact ⟨_, _, rfl, Nat.le_refl _, ownB_nil _ _, HO.out⟩
  · have e0 : rRawX L most s = ([], s) := by unfold rRawX; rw [if_neg hb]
    rw [e0]
    have HC := Hid.mk' (qlen_stop most 1 w h hb)
    clear h e0
    go_enter Tryz.func91, Tryz.ntmps91
    go_wp2_with fail
    refine HC.out.mono ?_
    rintro e w2 ⟨rfl, ho⟩
    have HO := Hid.mk' ho
    clear ho
    go_wp2
    go_ret
    exact ⟨_, _, rfl, Nat.le_refl _, ownB_nil _ _, HO.out⟩
set_option maxRecDepth 100000 in
set_option maxHeartbeats 2000000 in
theorem qtext_x (most : Int) (hm0 : -9223372036854775808 ≤ most) (hm : most < 9223372036854775808) (w : World) (h : RD w T r a cap L s) :
    Calls Tryz.prog 90 #[.pointer (some ⟨r, 0, none⟩), .int .i64 most] w fun e w' => e = .returned (.string ⟨(rTextX L most s).1.toArray⟩) ∧ On w w' T r a cap L (rTextX L most s).2 := by
  by_cases hb : s.bad = 0
  · by_cases hq : Fits L s.k most 1
    · have hE : rTextX L most s = (if good (cut L (s.k + (num L s.k).size) (num L s.k).v) < (num L s.k).v then ([], ⟨s.k, 21, (s.k : Int) + ((num L s.k).size : Int) + (good (cut L (s.k + (num L s.k).size) (num L s.k).v) : Int)⟩) else (cut L (s.k + (num L s.k).size) (num L s.k).v, ⟨s.k + (num L s.k).size + (num L s.k).v, s.bad, s.wh⟩)) := by unfold rTextX; rw [if_pos hb, if_pos hq]
      rw [hE]
      obtain ⟨h1, h2, h3, h4⟩ := hq
      have hok := num_ok L s.k h.at_le
      rcases hN : num L s.k with ⟨n, hd, why, pl⟩
      rw [hN] at h1 h3 h4 hok
      simp only at h1 h3 h4 hok ⊢
      subst h1
      obtain ⟨k1, k2, k3⟩ := hok.1 rfl
      simp only [Nat.mul_one] at h4
      have HC := Hid.mk' (qlen_yes1 most hm w h hb n hd pl hN h3 (by omega))
      have hq : True := trivial
      clear hok hN
      have hf := h.few
      have hr := h.room
      have hlen := cut_len L (s.k + hd) n (by omega)
      have hpl : ∀ x, from23 a cap (s.k + hd) = some x → x.spot = none := fun x e => (plain_from h.plain cap (s.k + hd) x e).1
      have HCV := Hid.mk' (fun (wx : World) (s2 : St) (hx : On w wx T r a cap L s2) => byt_str (cap := cap - (s.k + hd)) hlen hpl (hx.1.cut (s.k + hd) n))
      have HWR := Hid.mk' (fun (wx : World) => wrong_any ⟨(cut L (s.k + hd) n).toArray⟩ wx (by show (cut L (s.k + hd) n).toArray.size ≤ _; rw [List.size_toArray, hlen]; omega))
      have hdat : (⟨(cut L (s.k + hd) n).toArray⟩ : ByteArray).data.toList = cut L (s.k + hd) n := rfl
      rw [hdat] at HWR
      have hsz : (⟨(cut L (s.k + hd) n).toArray⟩ : ByteArray).size = n := by show (cut L (s.k + hd) n).toArray.size = _; rw [List.size_toArray, hlen]
      have hgle : good (cut L (s.k + hd) n) ≤ n := by have := goodF_le (cut L (s.k + hd) n).length (cut L (s.k + hd) n); rw [hlen] at this; unfold good; rw [hlen]; exact this
      have s1 := sl_mid a L.length cap (s.k + hd) (s.k + hd + n) ((s.k : Int) + (hd : Int)) ((s.k : Int) + (hd : Int) + (n : Int)) (by omega) (by omega) (by omega) (by omega)
      have s2 := sl_mid' a L.length cap (s.k + hd) (s.k + hd + n) ((s.k : Int) + (hd : Int)) ((s.k : Int) + (hd : Int) + (n : Int)) (by omega) (by omega) (by omega) (by omega)
      rw [Nat.add_sub_cancel_left] at s1 s2
      clear h hE hq hlen hpl hdat
      generalize from23 a cap (s.k + hd) = a4 at *
      generalize cap - (s.k + hd) = c4 at *
      generalize good (cut L (s.k + hd) n) = g at *
      have EX : ∀ (p : Prop) [Decidable p] (x y : St), (if p then (([] : List UInt8), x) else (cut L (s.k + hd) n, y)) = if p then ([], x) else (cut L (s.k + hd) n, y) := fun _ _ _ _ => rfl
      clear EX
      by_cases hg : g < n
      · rw [if_pos hg]
        have hg' : (g : Int) < (n : Int) := by omega
        generalize (⟨(cut L (s.k + hd) n).toArray⟩ : ByteArray) = TX at *
        have HSZ := Hid.mk' hsz
        have hszI : (TX.size : Int) = (n : Int) := by omega
        clear hsz
        have HK := Hid.mk' (qfail_on (a := a) (cap := cap) (L := L) (T := T) (r := r) w hb 21 ((s.k : Int) + (hd : Int) + (g : Int)) (by decide))
        go_enter Tryz.func90, Tryz.ntmps90
        go_wp2_with fail
        refine HC.out.mono ?_
        rintro e w2 ⟨rfl, ho⟩
        have c0 := ho.1.c0
        have cv := HCV.out w2 s ho
        have HON := Hid.mk' ho
        clear ho
        go_wp2_with fail
        refine (HWR.out _).mono ?_
        rintro e w3 ⟨rfl, hw3⟩
        subst hw3
        go_wp2_with fail
        refine (HK.out _ HON.out).mono ?_
        rintro e w4 ⟨rfl, ho⟩
        have HO2 := Hid.mk' ho
        clear ho
        go_wp2
        go_ret
        exact ⟨rfl, HO2.out⟩
      · rw [if_neg hg]
        have hg' : ¬ (g : Int) < (n : Int) := by omega
        simp only
        generalize (⟨(cut L (s.k + hd) n).toArray⟩ : ByteArray) = TX at *
        have hszI : (TX.size : Int) = (n : Int) := by omega
        clear hsz
        go_enter Tryz.func90, Tryz.ntmps90
        go_wp2_with fail
        refine HC.out.mono ?_
        rintro e w2 ⟨rfl, ho⟩
        have c0 := ho.1.c0
        have cv := HCV.out w2 s ho
        have f1 := ho.1.fz 1
        have c1 := ho.1.c1
        have HO2 := Hid.mk' (ho.set1 (s.k + hd + n) ((s.k : Int) + (hd : Int) + (n : Int)) (by omega) (by omega))
        clear ho
        go_wp2_with fail
        refine (HWR.out _).mono ?_
        rintro e w3 ⟨rfl, hw3⟩
        subst hw3
        go_wp2
        go_ret
        exact ⟨rfl, HO2.out⟩
    · have hE : rTextX L most s = ([], sNo L most s) := by unfold rTextX; rw [if_pos hb, if_neg hq]
      rw [hE]
      have HC := Hid.mk' (qlen_no1 most hm0 hm w h hb hq)
      clear h hE hq
      go_enter Tryz.func90, Tryz.ntmps90
      go_wp2_with fail
      refine HC.out.mono ?_
      rintro e w2 ⟨rfl, ho⟩
      have HO := Hid.mk' ho
      clear ho
      go_wp2
      go_ret
      exact ⟨rfl, HO.out⟩
  · have e0 : rTextX L most s = ([], s) := by unfold rTextX; rw [if_neg hb]
    rw [e0]
    have HC := Hid.mk' (qlen_stop most 1 w h hb)
    clear h e0
    go_enter Tryz.func90, Tryz.ntmps90
    go_wp2_with fail
    refine HC.out.mono ?_
    rintro e w2 ⟨rfl, ho⟩
    have HO := Hid.mk' ho
    clear ho
    go_wp2
    go_ret
    exact ⟨rfl, HO.out⟩
end Go.Proofs.YtdnocpngdepbgaaGreatDoor.K

namespace Go.Proofs.YtdnocpngdepbgaaGreatDoor.K
open Go.RowKit
set_option linter.unusedVariables false
set_option linter.unusedSimpArgs false

theorem fsub_fin (f : Nat) (h : ffin f) : FloatKind.f64.format.sub f f = some 0 := by
  show Ieee.double.sub f f = some 0
  unfold Ieee.Format.sub
  rw [fread f h]
  generalize (f / 2 ^ 63 % 2 == 1) = sg
  generalize fmag (f % 2 ^ 63) = m
  generalize (Ieee.double.leastPlace + (fplace (f % 2 ^ 63) : Nat)) = e
  simp only [Ieee.Datum.opposite, Ieee.Datum.sum, Int.min_self, Int.sub_self]
  have ht : Ieee.signed sg m (0 : Int).toNat + Ieee.signed (!sg) m (0 : Int).toNat = 0 := by
    cases sg <;> simp [Ieee.signed] <;> omega
  rw [ht]
  have hs : (if (0 : Int) = 0 then (sg && !sg) else decide ((0 : Int) < 0)) = false := by cases sg <;> rfl
  rw [hs]
  simp only [Option.map_some, Int.natAbs_zero, Ieee.Format.write, Option.some.injEq]
  unfold Ieee.Format.nearest
  rw [if_pos rfl]
  rfl
theorem fsub_not (f : Nat) (h : ¬ ffin f) : FloatKind.f64.format.sub f f = none := by
  show Ieee.double.sub f f = none
  have e1 : Ieee.double.signWeight = 2 ^ 63 := rfl
  have e2 : Ieee.double.binade = 2 ^ 52 := rfl
  have e3 : Ieee.double.infRung = 2047 * 2 ^ 52 := rfl
  unfold ffin at h
  unfold Ieee.Format.sub Ieee.Format.read
  rw [e1, e2, e3]
  by_cases hi : f % 2 ^ 63 = 2047 * 2 ^ 52
  · simp only [if_neg (show ¬ f % 2 ^ 63 < 2 ^ 52 by omega), if_neg (show ¬ f % 2 ^ 63 < 2047 * 2 ^ 52 by omega), if_pos hi]
    generalize (f / 2 ^ 63 % 2 == 1) = sg
    cases sg <;> rfl
  · simp only [if_neg (show ¬ f % 2 ^ 63 < 2 ^ 52 by omega), if_neg (show ¬ f % 2 ^ 63 < 2047 * 2 ^ 52 by omega), if_neg hi]
    rfl
/-- The NaN that a difference without an answer gives. -/
def nanOf (f : Nat) (w : World) : Nat := (Question.nanBits .f64 f f).cut (w.tape w.drawn (.nanBits .f64 f f))
theorem sub_nan (f : Nat) (h : FloatKind.f64.format.sub f f = none) (w : World) : (binOp .sub 34 (.float .f64 f) (.float .f64 f)).run Tryz.prog w = .ok (.float .f64 (nanOf f w)) w.drew := by
  simp [binOp, Op.floatArith, h, Question.forced]
  rfl
theorem ford_nan0 (x : Nat) (h : 9218868437227405312 < x % 9223372036854775808) : (FloatKind.f64.format.order x 0 == some .eq) = false := by
  have e : Ieee.double.order x 0 = none := by
    have e1 : Ieee.double.signWeight = 2 ^ 63 := rfl
    have e2 : Ieee.double.binade = 2 ^ 52 := rfl
    have e3 : Ieee.double.infRung = 2047 * 2 ^ 52 := rfl
    unfold Ieee.Format.order Ieee.Format.read
    rw [e1, e2, e3]
    simp only [if_neg (show ¬ x % 2 ^ 63 < 2 ^ 52 by omega), if_neg (show ¬ x % 2 ^ 63 < 2047 * 2 ^ 52 by omega), if_neg (show ¬ x % 2 ^ 63 = 2047 * 2 ^ 52 by omega)]
    rfl
  show (Ieee.double.order x 0 == some .eq) = false
  rw [e]
  rfl
theorem nanOf_hi (f : Nat) (w : World) : 9218868437227405312 < nanOf f w % 9223372036854775808 := by
  unfold nanOf Question.cut
  simp only
  generalize w.tape w.drawn (.nanBits .f64 f f) = t
  have h1 : t % 2 < 2 := Nat.mod_lt _ (by decide)
  have h2 : t / 2 % (2 ^ 52 - 1) < 2 ^ 52 - 1 := Nat.mod_lt _ (by decide)
  generalize t % 2 = p at *
  generalize t / 2 % (2 ^ 52 - 1) = q at *
  obtain rfl | rfl : p = 0 ∨ p = 1 := by omega
  · omega
  · omega
set_option maxRecDepth 100000 in
set_option maxHeartbeats 400000 in
theorem qfin_any (f : Nat) (w : World) :
    Calls Tryz.prog 118 #[.float .f64 f] w fun e w' => e = .returned (.bool (finN f)) ∧ ∃ m, w' = w.drewN m := by
  by_cases h : ffin f
  · have e1 : finN f = true := by unfold finN; unfold ffin at h; rw [decide_eq_true (by omega)]
    rw [e1]
    have hs := fun wx => run_float_arith (P := Tryz.prog) wx .sub 34 .f64 f f 0 (fsub_fin f h)
    have z : (FloatKind.f64.format.order 0 0 == some .eq) = true := by decide +kernel
    clear h e1
    go_enter Tryz.func118, Tryz.ntmps118
    go_wp2
    go_ret
    exact ⟨rfl, 0, rfl⟩
  · have e1 : finN f = false := by unfold finN; unfold ffin at h; rw [decide_eq_false (by omega)]
    rw [e1]
    have hs := sub_nan f (fsub_not f h) w
    have z := ford_nan0 (nanOf f w) (nanOf_hi f w)
    generalize nanOf f w = N at *
    clear h e1
    go_enter Tryz.func118, Tryz.ntmps118
    go_wp2
    go_ret
    exact ⟨rfl, 1, rfl⟩

end Go.Proofs.YtdnocpngdepbgaaGreatDoor.K

namespace Go.Proofs.YtdnocpngdepbgaaGreatDoor.K
open Go.RowKit
set_option linter.unusedVariables false
set_option linter.unusedSimpArgs false

variable {T : TypeId} {r cap : Nat} {a : Option Addr} {L : List UInt8} {s : St}
set_option maxRecDepth 100000 in
set_option maxHeartbeats 2000000 in
theorem qfloat_any (w : World) (h : RD w T r a cap L s) :
    Calls Tryz.prog 89 #[.pointer (some ⟨r, 0, none⟩)] w fun e w' => e = .returned (.float .f64 (rFloat L s).1) ∧ On w w' T r a cap L (rFloat L s).2 := by
  by_cases hb : s.bad = 0
  · by_cases hk : s.k + 8 ≤ L.length
    · have HE := Hid.mk' (qends_ok 8 (by decide) w h hb hk)
      obtain ⟨b, off, ea, hc⟩ := rd_cell h
      obtain ⟨rfl, hbr⟩ := ea (by omega)
      have hf := h.few
      have HC : Hid (∀ wx, On w wx T r (some ⟨b, off, none⟩) cap L s → ∀ j, j < 8 → wx.cell? ⟨b, off + (s.k + j), none⟩ = some (.int .u8 ((L.getD (s.k + j) 0).toNat : Int))) := fun wx hx j hj => hx.2.cell (p := ⟨b, off + (s.k + j), none⟩) hbr (hc (s.k + j) (by omega))
      have HK := Hid.mk' (qfail_on (a := some ⟨b, off, none⟩) (cap := cap) (L := L) (T := T) (r := r) w hb 21 (s.k : Int) (by decide))
      have hE : rFloat L s = (if finB (be L s.k 8) = true then (be L s.k 8, ⟨s.k + 8, s.bad, s.wh⟩) else (0, ⟨s.k, 21, s.k⟩)) := by unfold rFloat; rw [if_pos hb, if_pos hk]
      obtain ⟨R, hR⟩ : ∃ R, rFloat L s = R := ⟨_, rfl⟩
      rw [hR] at hE ⊢
      have HRR := Hid.mk' hE
      have HBL := Hid.mk' (be_lt L s.k)
      have HF8 := Hid.mk' (qfin_any (be L s.k 8))
      clear h hc ea hE hR
      go_enter Tryz.func89, Tryz.ntmps89
      go_wp2_with fail
      refine HE.out.mono ?_
      rintro e w1 ⟨rfl, ho⟩
      have HON := Hid.mk' ho
      clear ho HE
      go_wp2
      go_loopw [3, 4] (fun n i wr => ∃ j : Nat, n = .int .u64 (be L s.k j : Int) ∧ i = .int .i64 (j : Int) ∧ j ≤ 8 ∧ Hid (On w wr T r (some ⟨b, off, none⟩) cap L s)) (fun _ i _ => 8 - (intOf i).toNat)
      case atStart => exact ⟨0, rfl, rfl, by omega, HON⟩
      case round =>
        clear HON
        obtain ⟨j, rfl, rfl, hj, HON⟩ := hrel
        by_cases hj8 : j < 8
        · have hj8' : (j : Int) < 8 := by omega
          have cc := HC.out wr HON.out j hj8
          have c0 := HON.out.1.c0
          have c1 := HON.out.1.c1
          have htn : ((s.k : Int) + (j : Int)).toNat = s.k + j := by omega
          have hlt : ((s.k : Int) + (j : Int)) < (L.length : Int) := by omega
          have hbl := HBL.out j
          have hp : 256 ^ j ≤ 256 ^ 7 := Nat.pow_le_pow_right (by omega) (by omega)
          have hbj : be L s.k (j + 1) = be L s.k j * 256 + (L.getD (s.k + j) 0).toNat := rfl
          have hby := (L.getD (s.k + j) 0).toNat_lt
          generalize (L.getD (s.k + j) 0).toNat = bn at *
          have hB : be L s.k j < 72057594037927936 := by omega
          have HBJ := Hid.mk' hbj
          clear hbj hbl hp
          generalize be L s.k j = B at *
          go_wp2
          go_quiet (fail)
          go_wp2
          exact ⟨⟨j + 1, congrArg _ (by rw [HBJ.out]; push_cast; rfl), by go_num, by omega, HON.out.drew nq⟩, by simp [intOf]; omega⟩
        · obtain rfl : j = 8 := by omega
          clear hj8 hj
          have hF : be L s.k 8 < 18446744073709551616 := HBL.out 8
          generalize be L s.k 8 = F at *
          have c1 := HON.out.1.c1
          have f1 := HON.out.1.fz 1
          clear HC HBL
          by_cases hfin : finN F = true
          · rw [hfin] at HF8
            by_cases h63 : F = 9223372036854775808
            · have h63' : (F : Int) = 9223372036854775808 := by omega
              have HR2 := Hid.mk' (HRR.out.trans (if_neg (show ¬ finB F = true by unfold finB; rw [decide_eq_false (by omega)]; simp)))
              rw [h63] at HF8
              clear HRR hfin h63
              go_wp2_with fail
              refine (HF8.out _).mono ?_
              rintro e w2 ⟨rfl, m, hw2⟩
              have HON2 : Hid (On w w2 T r (some ⟨b, off, none⟩) cap L s) := by show On _ _ _ _ _ _ _ _; rw [hw2]; exact HON.out.drew m
              clear hw2 HON c1 f1
              have c1 := HON2.out.1.c1
              have f1 := HON2.out.1.fz 1
              go_wp2_with fail
              refine (HK.out _ HON2.out).mono ?_
              rintro e w3 ⟨rfl, ho⟩
              have HO := Hid.mk' ho
              clear ho
              go_wp2
              go_ret
              exact ⟨by first | (rw [HR2.out]; done) | (rw [HR2.out]; rfl), by rw [HR2.out]; exact HO.out⟩
            · have h63' : ¬ (F : Int) = 9223372036854775808 := by omega
              have HR2 := Hid.mk' (HRR.out.trans (if_pos (show finB F = true by unfold finB; rw [hfin, decide_eq_true h63]; rfl)))
              clear HRR hfin h63
              go_wp2_with fail
              refine (HF8.out _).mono ?_
              rintro e w2 ⟨rfl, m, hw2⟩
              have HON2 : Hid (On w w2 T r (some ⟨b, off, none⟩) cap L s) := by show On _ _ _ _ _ _ _ _; rw [hw2]; exact HON.out.drew m
              clear hw2 HON c1 f1
              have c1 := HON2.out.1.c1
              have f1 := HON2.out.1.fz 1
              have HO := Hid.mk' (HON2.out.set1 (s.k + 8) ((s.k : Int) + 8) (by omega) hk)
              go_wp2
              go_ret
              exact ⟨by first | (rw [HR2.out]; done) | (rw [HR2.out]; rfl), by rw [HR2.out]; exact HO.out⟩
          · have hfin' : finN F = false := by simpa using hfin
            rw [hfin'] at HF8
            have HR2 := Hid.mk' (HRR.out.trans (if_neg (show ¬ finB F = true by unfold finB; rw [hfin']; simp)))
            clear HRR hfin hfin'
            go_wp2_with fail
            refine (HF8.out _).mono ?_
            rintro e w2 ⟨rfl, m, hw2⟩
            have HON2 : Hid (On w w2 T r (some ⟨b, off, none⟩) cap L s) := by show On _ _ _ _ _ _ _ _; rw [hw2]; exact HON.out.drew m
            clear hw2 HON c1 f1
            have c1 := HON2.out.1.c1
            have f1 := HON2.out.1.fz 1
            go_wp2_with fail
            refine (HK.out _ HON2.out).mono ?_
            rintro e w3 ⟨rfl, ho⟩
            have HO := Hid.mk' ho
            clear ho
            go_wp2
            go_ret
            exact ⟨by first | (rw [HR2.out]; done) | (rw [HR2.out]; rfl), by rw [HR2.out]; exact HO.out⟩
    · have e0 : rFloat L s = (0, ⟨s.k, 20, L.length⟩) := by unfold rFloat; rw [if_pos hb, if_neg hk]
      rw [e0]
      clear e0
      have HE := Hid.mk' (qends_no 8 (by decide) w h hb hk)
      clear h
      go_enter Tryz.func89, Tryz.ntmps89
      go_wp2_with fail
      refine HE.out.mono ?_
      rintro e w1 ⟨rfl, ho⟩
      have HO := Hid.mk' ho
      clear ho
      go_wp2
      go_ret
      exact ⟨rfl, HO.out⟩
  · have e0 : rFloat L s = (0, s) := by unfold rFloat; rw [if_neg hb]
    rw [e0]
    have HE := Hid.mk' (qends_bad 8 (by decide) w h hb)
    clear h e0
    go_enter Tryz.func89, Tryz.ntmps89
    go_wp2_with fail
    refine HE.out.mono ?_
    rintro e w1 ⟨rfl, ho⟩
    have HO := Hid.mk' ho
    clear ho
    go_wp2
    go_ret
    exact ⟨rfl, HO.out⟩
end Go.Proofs.YtdnocpngdepbgaaGreatDoor.K

namespace Go.Proofs.YtdnocpngdepbgaaGreatDoor
open Go.RowKit
set_option linter.unusedVariables false
set_option linter.unusedSimpArgs false

theorem hs_app {w : World} {b off : Nat} {L M : List (List UInt8)} (h : Hs w b off (L ++ M)) : Hs w b off L := fun i x e => h i x (by rw [List.getElem?_append_left (List.getElem?_eq_some_iff.1 e).1]; exact e)

set_option maxRecDepth 100000 in
set_option maxHeartbeats 1000000 in
/-- What was handed in is as it was. -/
theorem keptH_any (g : Nat) (a2 : Option Addr) (L : List (List UInt8)) (c2 : Nat) (w : World) (hL : All32 L) (hb : L.length ≤ 4398046511104) (h1 : Hs w g 0 (L ++ marks)) (h2 : Hl w a2 L) :
    Calls Tryz.prog 42 #[.slice (some ⟨g, 0, none⟩) L.length (L.length + 9), .slice a2 L.length c2] w fun e w' => e = .returned (.bool true) ∧ ∃ m, w' = w.drewN m := by
  have HS0 := sameH_any (some ⟨g, 0, none⟩) a2 L L (L.length + 9) c2 w hL hL hb (.inr ⟨g, 0, rfl, hs_app h1⟩) h2
  simp only [decide_true] at HS0
  obtain ⟨n, hn⟩ : ∃ n, n = L.length := ⟨_, rfl⟩
  rw [← hn] at HS0 hb ⊢
  have HN : Hid (n = L.length) := hn
  have HS1 : Hid (Calls Tryz.prog 83 #[.slice (some ⟨g, 0, none⟩) n (n + 9), .slice a2 n c2] w fun e w' => e = .returned (.bool true) ∧ ∃ m, w' = w.drewN m) := HS0
  have H1 : Hid (Hs w g 0 (L ++ marks)) := h1
  clear hn HS0 h1
  go_enter Tryz.func42, Tryz.ntmps42
  go_wp2_with (go_at_call 83; refine HS1.out.mono ?_; rintro e w1 ⟨rfl, hw1⟩)
  have HW1 : Hid (∃ m, w1 = w.drewN m) := hw1
  clear hw1 HS1
  go_loopw [6] (fun i wr => ∃ m : Nat, n ≤ m ∧ m ≤ n + 9 ∧ i = .int .i64 m ∧ wr = w1) (fun i _ => n + 9 - (intOf i).toNat)
  case atStart => exact ⟨n, by omega, by omega, rfl, rfl⟩
  case round =>
    obtain ⟨m, hnm, hm9, rfl, rfl⟩ := hrel
    by_cases hm : m < n + 9
    · obtain ⟨j, hj⟩ : ∃ j : Nat, m = n + j := ⟨m - n, by omega⟩
      have ej : (m : Int) - (n : Int) = (j : Int) := by omega
      have hj9 : j < 9 := by omega
      have HR : Hid (wr.rangeAt g (32 * m) (hcs (mk j))) := (by
        obtain ⟨q, e⟩ := HW1.out
        rw [e]
        have := H1.out m (mk j) (by rw [List.getElem?_append_right (by rw [← HN.out]; omega), ← HN.out, hj, Nat.add_sub_cancel_left]; exact marks_get j hj9)
        rwa [Nat.zero_add] at this : wr.rangeAt g (32 * m) (hcs (mk j)))
      have ix := fun wx => indexH g 0 (n + 9) (n + 9) m wx hm
      have hbu := built_mk j (by omega)
      have HMK : Hid ((mk j).length = 32) := mk_len j
      have eqq := fun wx => eq23 (mk j) (mk j) (mk_len j) (mk_len j) wx
      simp only [decide_true] at eqq
      clear hj
      generalize mk j = x at *
      go_wp2_with (first
        | (refine wpList_build_is rfl 36 _ rfl [(0, .int .u8 160), (1, .int .u8 (j : Int))] (by first | kernel_rfl | simp) (bs x) hbu ?_)
        | (refine wpList_load_mid rfl 36 _ rfl g (32 * m) rfl (hcs x) _ HR.out Tryz.underlying36 rfl (by rw [hcs_len, HMK.out]; exact hsH) ?_; rw [hcs_arr])
        | fail)
      go_roundw
      case rel => exact ⟨m + 1, by omega, by omega, by go_num, by trivial⟩
      case measure => simp [intOf]; omega
    · obtain rfl : m = n + 9 := by omega
      go_wp2
      go_ret
      exact ⟨rfl, HW1.out⟩
end Go.Proofs.YtdnocpngdepbgaaGreatDoor

namespace Go.Proofs.YtdnocpngdepbgaaGreatDoor.K
open Go.RowKit
set_option linter.unusedVariables false
set_option linter.unusedSimpArgs false

theorem made_bs (n : Nat) : madeCells #[.int .u8 0] n = bs (List.replicate n 0) := by
  apply Array.ext
  · simp [madeCells, bs]
  · intro i h1 h2
    simp [madeCells, bs, Nat.mod_one]
set_option maxHeartbeats 2000000 in
/-- The same bytes at two places. -/
theorem same_any (a1 a2 : Option Addr) (l : List UInt8) (n c1 c2 : Nat) (w : World) (hn : l.length = n) (h1 : Byt w a1 l) (h2 : Byt w a2 l) (hl : n ≤ 140737488351232) :
    Calls Tryz.prog 12 #[.slice a1 n c1, .slice a2 n c2] w fun e w' => e = .returned (.bool true) ∧ ∃ m, w' = w.drewN m := by
  subst hn
  go_enter Tryz.func12, Tryz.ntmps12
  go_wp2
  go_loopw [5] (fun i wr => ∃ k : Nat, k ≤ l.length ∧ i = .int .i64 k ∧ ∃ m, wr = w.drewN m) (fun i _ => l.length - (intOf i).toNat)
  case atStart => exact ⟨0, Nat.zero_le _, rfl, 0, rfl⟩
  case round =>
    obtain ⟨k, hk, rfl, m, rfl⟩ := hrel
    by_cases hlt : k < l.length
    · rcases h1 with rfl | ⟨b1, o1, rfl, d1⟩
      · simp at hlt
      rcases h2 with rfl | ⟨b2, o2, rfl, d2⟩
      · simp at hlt
      have e1 := d1 k hlt
      have e2 := d2 k hlt
      go_wp2
      go_quiet (fail)
      go_wp2
      go_roundw
      case rel => exact ⟨k + 1, by omega, by go_num, _, rfl⟩
      case measure => simp [intOf]; omega
    · have hk2 : k = l.length := by omega
      subst hk2
      go_wp2
      go_ret
      exact ⟨rfl, m, rfl⟩

/-- The marks behind what is handed in. -/
def marks : List UInt8 := [160, 161, 162, 163, 164, 165, 166, 167, 168]
/-- What is handed in, with its marks, as far as place k. -/
def handTo (l : List UInt8) (k : Nat) : List UInt8 := (l ++ marks).take k ++ List.replicate (l.length + 9 - k) 0
theorem handTo_len (l : List UInt8) (k : Nat) (h : k ≤ l.length + 9) : (handTo l k).length = l.length + 9 := by
  simp [handTo, marks]; omega
theorem handTo_zero (l : List UInt8) : handTo l 0 = List.replicate (l.length + 9) 0 := by simp [handTo]
theorem handTo_all (l : List UInt8) : handTo l (l.length + 9) = l ++ marks := by
  unfold handTo
  rw [List.take_of_length_le (by simp [marks])]
  simp
theorem handTo_succ (l : List UInt8) (k : Nat) (v : UInt8) (h : k < l.length + 9) (hv : (l ++ marks).getD k 0 = v) : (handTo l k).set k v = handTo l (k + 1) := by
  have hL : k < (l ++ marks).length := by simp [marks]; omega
  unfold handTo
  have e : l.length + 9 - k = (l.length + 9 - (k + 1)) + 1 := by omega
  have e1 : ((l ++ marks).take k).length = k := by rw [List.length_take]; omega
  rw [e, List.replicate_succ, List.set_append_right _ _ (by omega), e1, Nat.sub_self, List.take_succ_eq_append_getElem hL]
  have e2 : (l ++ marks)[k] = v := by rw [← hv]; simp [List.getElem?_eq_getElem hL]
  rw [e2]
  simp
theorem mark_at (l : List UInt8) (k : Nat) (h : k < 9) : at8 (l ++ marks) (l.length + k) = 160 + (k : Int) := by
  have e : (l ++ marks).getD (l.length + k) 0 = marks.getD k 0 := by
    simp [List.getElem?_append_right]
  unfold at8
  rw [e]
  have : ∀ k : Fin 9, (((marks.getD k.val 0).toNat : Nat) : Int) = 160 + (k.val : Int) := by decide
  exact this ⟨k, h⟩
theorem own_at (l : List UInt8) (k : Nat) (h : k < l.length) : at8 (l ++ marks) k = at8 l k := by
  simp [at8, List.getElem?_append_left h]

set_option maxHeartbeats 2000000 in
theorem hand_any (a : Option Addr) (l : List UInt8) (cap : Nat) (w : World) (hb : Byt w a l) (hl : l.length ≤ 140737488351232) :
    Calls Tryz.prog 17 #[.slice a l.length cap] w fun e w' => e = .returned (.slice (some ⟨w.heap.size, 0, none⟩) l.length (l.length + 9)) ∧ w'.heap[w.heap.size]? = some (.cells (bs (l ++ marks)) 5 (0, 0)) ∧ Below w.heap.size w w' := by
  have hmk := fun wx => run_make_row' (P := Tryz.prog) 25 5 (.int .u8 0) 1 Tryz.underlying25 info5k rfl .i64 .i64 (l.length + 9) (by omega) (by omega) wx
  rw [made_bs] at hmk
  have hc1 : ((l.length + 9 : Nat) : Int) = (l.length : Int) + 9 := by omega
  rw [hc1] at hmk
  go_enter Tryz.func17, Tryz.ntmps17
  go_wp2
  clear hmk
  go_loopw [4] (fun i wr => ∃ k : Nat, k ≤ l.length ∧ i = .int .i64 k ∧ wr.heap[w.heap.size]? = some (.cells (bs (handTo l k)) 5 (0, 0)) ∧ Below w.heap.size w wr) (fun i _ => l.length - (intOf i).toNat)
  case atStart => exact ⟨0, Nat.zero_le _, rfl, by rw [handTo_zero]; exact heap_alloc_new _ _, (Below.refl _ _).alloc (Nat.le_refl _) _⟩
  case round =>
    obtain ⟨k, hk, rfl, hg, hbel⟩ := hrel
    have hlt : w.heap.size < wr.heap.size := (Array.getElem?_eq_some_iff.1 hg).1
    by_cases h1 : k < l.length
    · have hc := (cell_of_row wr w.heap.size k _ _ _ hg).trans (bs_get _ k (by rw [handTo_len _ _ (by omega)]; omega))
      have hf := frozen_of_row wr w.heap.size k _ _ hg
      rcases hb with rfl | ⟨b, off, rfl, hcc⟩
      · simp at h1
      · have d1 := (hbel.cell (p := ⟨b, off + k, none⟩) (block_lt_of_cell (hcc k h1))).trans (hcc k h1)
        go_wp2
        go_roundw
        case rel =>
          refine ⟨k + 1, by omega, by go_num, ?_, ?_⟩
          · show (wr.setCell _ _).heap[_]? = _
            rw [heap_setCell_same wr w.heap.size k _ 5 _ hg]
            unfold at8
            rw [bs_set, handTo_succ _ _ _ (by omega) (by simp [List.getElem?_append_left h1])]
          · exact (hbel.setCell (by simp) _)
        case measure => simp [intOf]; omega
    · have hk2 : k = l.length := by omega
      subst hk2
      clear h1 hk
      go_wp2
      go_loopw [5] (fun i wq => ∃ k : Nat, k ≤ 9 ∧ i = .int .i64 ((l.length : Int) + k) ∧ wq.heap[w.heap.size]? = some (.cells (bs (handTo l (l.length + k))) 5 (0, 0)) ∧ Below w.heap.size w wq) (fun i _ => l.length + 9 - (intOf i).toNat)
      case atStart => exact ⟨0, by omega, by simp, hg, hbel⟩
      case round =>
        clear hg hbel hlt
        obtain ⟨k, hk, rfl, hg, hbel⟩ := hrel
        have hlt : w.heap.size < wr.heap.size := (Array.getElem?_eq_some_iff.1 hg).1
        by_cases h1 : k < 9
        · have hc := (cell_of_row wr w.heap.size (l.length + k) _ _ _ hg).trans (bs_get _ (l.length + k) (by rw [handTo_len _ _ (by omega)]; omega))
          have hf := frozen_of_row wr w.heap.size (l.length + k) _ _ hg
          have hm := mark_at l k h1
          have ht : ((l.length : Int) + (k : Int)).toNat = l.length + k := by omega
          have hw1 : IntKind.u8.wrap (160 + ((l.length : Int) + (k : Int)) - (l.length : Int)) = at8 (l ++ marks) (l.length + k) := by
            rw [hm, IntKind.wrap_u8']; omega
          go_wp2
          go_roundw
          case rel =>
            refine ⟨k + 1, by omega, by go_num, ?_, ?_⟩
            · show (wr.setCell _ _).heap[_]? = _
              rw [heap_setCell_same wr w.heap.size (l.length + k) _ 5 _ hg]
              rw [← hm]
              unfold at8
              rw [bs_set, handTo_succ _ _ _ (by omega) rfl]
              rfl
            · exact (hbel.setCell (by simp) _)
          case measure => simp [intOf]; omega
        · have hk2 : k = 9 := by omega
          subst hk2
          rw [handTo_all] at hg
          go_wp2
          go_ret
          exact ⟨rfl, hg, hbel⟩

set_option maxHeartbeats 2000000 in
theorem kept_any (g : Nat) (a : Option Addr) (l : List UInt8) (cap : Nat) (w : World) (hg : w.heap[g]? = some (.cells (bs (l ++ marks)) 5 (0, 0))) (hb : Byt w a l) (hl : l.length ≤ 140737488351232) :
    Calls Tryz.prog 20 #[.slice (some ⟨g, 0, none⟩) l.length (l.length + 9), .slice a l.length cap] w fun e w' => e = .returned (.bool true) ∧ ∃ m, w' = w.drewN m := by
  have hL : (l ++ marks).length = l.length + 9 := by simp [marks]
  have hq : Byt w (some ⟨g, 0, none⟩) l := .inr ⟨g, 0, rfl, fun j hj => by
    rw [Nat.zero_add, ← own_at l j hj]
    exact (cell_of_row w g j _ _ _ hg).trans (bs_get _ j (by omega))⟩
  go_enter Tryz.func20, Tryz.ntmps20
  go_wp2_with fail
  refine (same_any _ _ l l.length _ _ w rfl hq hb hl).mono ?_
  rintro e w' ⟨rfl, m, rfl⟩
  go_wp2
  go_loopw [6] (fun i wr => ∃ k : Nat, k ≤ 9 ∧ i = .int .i64 ((l.length : Int) + k) ∧ wr = w.drewN m) (fun i _ => l.length + 9 - (intOf i).toNat)
  case atStart => exact ⟨0, by omega, by simp, rfl⟩
  case round =>
    obtain ⟨k, hk, rfl, rfl⟩ := hrel
    by_cases h1 : k < 9
    · have hc := (cell_of_row w g (l.length + k) _ _ _ hg).trans (bs_get _ (l.length + k) (by omega))
      have hm := mark_at l k h1
      rw [hm] at hc
      have ht : ((l.length : Int) + (k : Int)).toNat = l.length + k := by omega
      have hw1 : IntKind.u8.wrap (160 + ((l.length : Int) + (k : Int)) - (l.length : Int)) = 160 + (k : Int) := by
        rw [IntKind.wrap_u8']; omega
      go_wp2
      go_roundw
      case rel => exact ⟨k + 1, by omega, by go_num, trivial⟩
      case measure => simp [intOf]; omega
    · have hk2 : k = 9 := by omega
      subst hk2
      go_wp2
      go_ret
      exact ⟨rfl, m, rfl⟩
end Go.Proofs.YtdnocpngdepbgaaGreatDoor.K

namespace Go.Proofs.YtdnocpngdepbgaaGreatDoor.K
open Go.RowKit
set_option linter.unusedVariables false
set_option linter.unusedSimpArgs false

/-! A nil Writer. -/
set_option maxRecDepth 100000 in
theorem nadd (a : Option Addr) (len cap : Nat) (w : World) :
    Calls Tryz.prog 55 #[.pointer none, .slice a len cap] w fun x w' => x = .returned (.tuple #[]) ∧ w' = w := by
  go_enter Tryz.func55, Tryz.ntmps55
  go_wp2
  exact bodyPost_ret (results_none Tryz.results55 _ _ _) rfl ⟨rfl, rfl⟩
set_option maxRecDepth 100000 in
theorem nbyte (v : Int) (w : World) :
    Calls Tryz.prog 13 #[.pointer none, .int .u8 v] w fun x w' => x = .returned (.tuple #[]) ∧ Below w.heap.size w w' := by
  have be : Below w.heap.size w (w.alloc (.cells #[.int .u8 v] 5)) := (Below.refl _ _).alloc (Nat.le_refl _) _
  go_enter Tryz.func13, Tryz.ntmps13
  go_wp2_with fail
  refine (nadd _ _ _ _).mono ?_
  rintro x w1 ⟨rfl, h1⟩
  rw [← h1] at be
  clear h1
  go_wp2
  go_end0
  exact ⟨rfl, be⟩
set_option maxRecDepth 100000 in
theorem nbool (b : Bool) (w : World) :
    Calls Tryz.prog 36 #[.pointer none, .bool b] w fun x w' => x = .returned (.tuple #[]) ∧ Below w.heap.size w w' := by
  have be : ∀ v, Below w.heap.size w (w.alloc (.cells #[.int .u8 v] 5)) := fun v => (Below.refl _ _).alloc (Nat.le_refl _) _
  cases b
  · go_enter Tryz.func36, Tryz.ntmps36
    go_wp2_with fail
    refine (nadd _ _ _ _).mono ?_
    rintro x w1 ⟨rfl, h1⟩
    have be := be 0
    rw [← h1] at be
    clear h1
    go_wp2
    go_end0
    exact ⟨rfl, be⟩
  · go_enter Tryz.func36, Tryz.ntmps36
    go_wp2_with fail
    refine (nadd _ _ _ _).mono ?_
    rintro x w1 ⟨rfl, h1⟩
    have be := be 1
    rw [← h1] at be
    clear h1
    go_wp2
    go_end0
    exact ⟨rfl, be⟩
set_option maxRecDepth 100000 in
theorem nfix (v : Int) (h0 : 0 ≤ v) (h1 : v < 4294967296) (w : World) :
    Calls Tryz.prog 37 #[.pointer none, .int .u32 v] w fun x w' => x = .returned (.tuple #[]) ∧ Below w.heap.size w w' := by
  have be : Hid (∀ c : Array Value, Below w.heap.size w (w.alloc (.cells c 5))) := fun c => (Below.refl _ _).alloc (Nat.le_refl _) _
  go_enter Tryz.func37, Tryz.ntmps37
  go_wp2_with fail
  refine (nadd _ _ _ _).mono ?_
  rintro x w1 ⟨rfl, h1⟩
  have be : Below w.heap.size w w1 := by rw [h1]; exact be.out _
  clear h1
  go_wp2
  go_end0
  exact ⟨rfl, be⟩
set_option maxRecDepth 100000 in
set_option maxHeartbeats 1000000 in
theorem nuint (v : Nat) (hv : v < 18446744073709551616) (w : World) :
    Calls Tryz.prog 26 #[.pointer none, .int .u64 (v : Int)] w fun x w' => x = .returned (.tuple #[]) ∧ Below w.heap.size w w' := by
  go_enter Tryz.func26, Tryz.ntmps26
  go_wp2_with fail
  go_loopw [1] (fun x wr => ∃ (n : Nat), x = .int .u64 (n : Int) ∧ n < 18446744073709551616 ∧ Hid (Below w.heap.size w wr)) (fun x _ => (intOf x).toNat)
  case atStart => exact ⟨v, rfl, hv, Hid.mk' (Below.refl _ _)⟩
  case round =>
    obtain ⟨n, rfl, hn, HW⟩ := hrel
    have be : Hid (∀ c : Array Value, Below w.heap.size w (wr.alloc (.cells c 5))) := fun c => HW.out.alloc HW.out.size _
    by_cases hlt : n < 128
    · have hlt' : (n : Int) < 128 := by omega
      go_wp2_with fail
      refine (nadd _ _ _ _).mono ?_
      rintro x w1 ⟨rfl, h1⟩
      have be : Below w.heap.size w w1 := by rw [h1]; exact be.out _
      clear h1
      go_wp2
      go_end0
      exact ⟨rfl, be⟩
    · have hlt' : ¬ (n : Int) < 128 := by omega
      go_wp2_with fail
      refine (nadd _ _ _ _).mono ?_
      rintro x w1 ⟨rfl, h1⟩
      have be : Below w.heap.size w w1 := by rw [h1]; exact be.out _
      clear h1
      go_wp2
      exact ⟨⟨n / 128, by first | rfl | (congr 1; omega), by omega, Hid.mk' be⟩, by simp [intOf]; omega⟩
set_option maxRecDepth 100000 in
set_option maxHeartbeats 1000000 in
theorem nint (n : Int) (h0 : -9223372036854775808 ≤ n) (h1 : n < 9223372036854775808) (w : World) :
    Calls Tryz.prog 27 #[.pointer none, .int .i64 n] w fun x w' => x = .returned (.tuple #[]) ∧ Below w.heap.size w w' := by
  have hz : zig n < 18446744073709551616 := by unfold zig; split <;> omega
  have H : Hid (∀ v : Int, v = (zig n : Int) → Calls Tryz.prog 26 #[.pointer none, .int .u64 v] w fun x w' => x = .returned (.tuple #[]) ∧ Below w.heap.size w w') := fun v hv => by rw [hv]; exact nuint (zig n) hz w
  by_cases hn : n < 0
  · go_enter Tryz.func27, Tryz.ntmps27
    go_wp2_with fail
    refine (H.out _ ?_).mono ?_
    · have hw : IntKind.u64.wrap (IntKind.u64.wrap n * 2) = ((18446744073709551615 - zig n : Nat) : Int) := by
        rw [IntKind.wrap_u64, IntKind.wrap_u64]
        unfold zig
        rw [if_pos hn]
        omega
      rw [hw, not64n _ (by omega)]
      omega
    rintro x w1 ⟨rfl, ho⟩
    go_wp2
    go_end0
    exact ⟨rfl, ho⟩
  · go_enter Tryz.func27, Tryz.ntmps27
    go_wp2_with fail
    refine (H.out _ ?_).mono ?_
    · unfold zig
      rw [if_neg (by omega)]
      omega
    rintro x w1 ⟨rfl, ho⟩
    go_wp2
    go_end0
    exact ⟨rfl, ho⟩
set_option maxRecDepth 100000 in
theorem nfail (c : Int) (w : World) :
    Calls Tryz.prog 43 #[.pointer none, .int .i64 c] w fun x w' => x = .returned (.tuple #[]) ∧ w' = w := by
  go_enter Tryz.func43, Tryz.ntmps43
  go_wp2
  go_end0
  exact ⟨rfl, rfl⟩
set_option maxRecDepth 100000 in
theorem nlen (w : World) :
    Calls Tryz.prog 8 #[.pointer none] w fun x w' => x = .returned (.int .i64 0) ∧ w' = w := by
  go_enter Tryz.func8, Tryz.ntmps8
  go_wp2
  go_ret
  exact ⟨rfl, rfl⟩
set_option maxRecDepth 100000 in
theorem ndone (w : World) :
    Calls Tryz.prog 11 #[.pointer none] w fun x w' => x = .returned (.tuple #[.slice none 0 0, .int .i64 1]) ∧ w' = w := by
  go_enter Tryz.func11, Tryz.ntmps11
  go_wp2
  go_ret2
  exact ⟨rfl, rfl⟩
set_option maxRecDepth 100000 in
set_option maxHeartbeats 1000000 in
theorem nfloat (f : Nat) (hf : f < 18446744073709551616) (w : World) :
    Calls Tryz.prog 29 #[.pointer none, .float .f64 f] w fun x w' => x = .returned (.tuple #[]) ∧ Below w.heap.size w w' := by
  have HF := Hid.mk' (fun (wx : World) => fin_any f wx hf)
  have HX := Hid.mk' (fun (v : Int) (h0 : 0 ≤ v) (h1 : v < 4294967296) (w : World) => nfix v h0 h1 w)
  by_cases h1 : finN f = true
  · rw [h1] at HF
    by_cases z : (FloatKind.f64.format.order f 0 == some .eq) = true
    · go_enter Tryz.func29, Tryz.ntmps29
      go_wp2_with fail
      refine (HF.out _).mono ?_
      rintro x w1 ⟨rfl, hw1⟩
      subst hw1
      go_wp2_with fail
      refine (HX.out _ (by decide) (by decide) _).mono ?_
      rintro x w2 ⟨rfl, a2⟩
      go_wp2_with fail
      refine (HX.out _ (by decide) (by decide) _).mono ?_
      rintro x w3 ⟨rfl, a3⟩
      have A3 := Hid.mk' (a2.trans (a3.mono a2.size))
      clear a2 a3
      go_wp2
      go_end0
      exact ⟨rfl, A3.out⟩
    · have z : (FloatKind.f64.format.order f 0 == some .eq) = false := by simpa using z
      go_enter Tryz.func29, Tryz.ntmps29
      go_wp2_with fail
      refine (HF.out _).mono ?_
      rintro x w1 ⟨rfl, hw1⟩
      subst hw1
      go_wp2_with fail
      refine (HX.out _ (by first | omega | (simp only [IntKind.wrap_u32]; omega)) (by first | omega | (simp only [IntKind.wrap_u32]; omega)) _).mono ?_
      rintro x w2 ⟨rfl, a2⟩
      go_wp2_with fail
      refine (HX.out _ (by first | omega | (simp only [IntKind.wrap_u32]; omega)) (by first | omega | (simp only [IntKind.wrap_u32]; omega)) _).mono ?_
      rintro x w3 ⟨rfl, a3⟩
      have A3 := Hid.mk' (a2.trans (a3.mono a2.size))
      clear a2 a3
      go_wp2
      go_end0
      exact ⟨rfl, A3.out⟩
  · have h1 : finN f = false := by simpa using h1
    rw [h1] at HF
    go_enter Tryz.func29, Tryz.ntmps29
    go_wp2_with fail
    refine (HF.out _).mono ?_
    rintro x w1 ⟨rfl, hw1⟩
    subst hw1
    go_wp2_with fail
    refine (nfail _ _).mono ?_
    rintro x w2 ⟨rfl, hw2⟩
    subst hw2
    go_wp2
    exact bodyPost_ret (results_none Tryz.results29 _ _ _) rfl ⟨rfl, Below.refl _ _⟩
set_option maxRecDepth 100000 in
theorem nraw (a : Option Addr) (len cap : Nat) (hl : len < 18446744073709551616) (w : World) :
    Calls Tryz.prog 38 #[.pointer none, .slice a len cap] w fun x w' => x = .returned (.tuple #[]) ∧ Below w.heap.size w w' := by
  have H := Hid.mk' (nuint len hl)
  have hl2 : (len : Int) < 18446744073709551616 := by omega
  go_enter Tryz.func38, Tryz.ntmps38
  go_wp2_with fail
  refine (H.out _).mono ?_
  rintro x w1 ⟨rfl, a1⟩
  have A1 := Hid.mk' a1
  clear a1
  go_wp2_with fail
  refine (nadd _ _ _ _).mono ?_
  rintro x w2 ⟨rfl, h2⟩
  subst h2
  go_wp2
  go_end0
  exact ⟨rfl, A1.out⟩
end Go.Proofs.YtdnocpngdepbgaaGreatDoor.K

