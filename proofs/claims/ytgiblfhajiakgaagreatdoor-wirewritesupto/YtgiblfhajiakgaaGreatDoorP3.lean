import Derived.Test.YtgiblfhajiakgaaGreatDoorP2
import Derived.Test.YtgiblfhajiakgaaGreatDoorKWb
import Derived.Test.YtgiblfhajiakgaaGreatDoorKWd
import Derived.Test.YtgiblfhajiakgaaGreatDoorKPf
import Derived.Laws.FloatArith
import Derived.Test.YtgiblfhajiakgaaGreatDoorKWe
import Derived.Test.YtgiblfhajiakgaaGreatDoorP1
import Derived.Lib.ValidLaws
import Derived.Test.YtgiblfhajiakgaaGreatDoorKKs
import Derived.Test.YtgiblfhajiakgaaGreatDoorP0
namespace Go.Proofs.YtgiblfhajiakgaaGreatDoor
open Go.RowKit
set_option linter.unusedVariables false
set_option linter.unusedSimpArgs false
theorem OwnH.size {w : World} {base : Nat} {v : Value} {L : List (List UInt8)} (h : OwnH w base v L) : ∃ a cap, v = .slice a L.length cap := by
  rcases h.open with ⟨rfl, rfl⟩ | ⟨g, cap, rfl, _⟩
  · exact ⟨none, 0, rfl⟩
  · exact ⟨_, _, rfl⟩

theorem int_pred {m : Nat} (h : 1 ≤ m) : Value.int .i64 ((m : Int) - 1) = .int .i64 ((m - 1 : Nat) : Int) := by
  rw [show ((m - 1 : Nat) : Int) = (m : Int) - 1 by omega]
theorem hl_one (w : World) : Hl (w.alloc (.cells (bs z32) 36)) (some ⟨w.heap.size, 0, none⟩) [z32] := by
  refine .inr ⟨w.heap.size, 0, rfl, fun i x e => ?_⟩
  have hi : i = 0 := by have := (List.getElem?_eq_some_iff.1 e).1; simp at this; omega
  subst hi
  simp at e
  subst e
  intro j v hv
  rw [Nat.mul_zero, Nat.add_zero, Nat.zero_add, cell_of_row _ w.heap.size j (bs z32) _ (0, 0) (heap_alloc_new _ _)]
  simpa [hcs] using hv

set_option maxRecDepth 100000 in
set_option maxHeartbeats 2000000 in
theorem rising_any (a : Option Addr) (L : List (List UInt8)) (cap : Nat) (w : World) (hL : All32 L) (hb : L.length ≤ 4398046510976) (hl : Hl w a L) :
    Calls Tryz.prog 120 #[.slice a L.length cap] w fun e w' => ∃ v D, e = .returned v ∧ Srt L D ∧ OwnH w' w.heap.size v D ∧ Below w.heap.size w w' := by
  obtain ⟨n, hn⟩ : ∃ n, n = L.length := ⟨_, rfl⟩
  rw [← hn] at hb ⊢
  have HN : Hid (n = L.length) := hn
  have HL : Hid (Hl w a L) := hl
  clear hn hl
  have HO0 : Hid (OwnH w w.heap.size (.slice none 0 0) []) := OwnH.nil _ _
  have HS0 : Hid (Srt (L.take 0) []) := (⟨fun i j x y h => by simp at h, fun x h => by simp at h, fun x => by simp⟩ : Srt (L.take 0) [])
  go_enter Tryz.func120, Tryz.ntmps120
  go_wp2
  go_loopw [3, 4] (fun v i wr => ∃ k : Nat, ∃ D : List (List UInt8), ∃ (va : Option Addr) (vc d : Nat), k ≤ n ∧ d ≤ k ∧ i = .int .i64 k ∧ v = .slice va d vc ∧ Hid (d = D.length) ∧ Hid (OwnH wr w.heap.size (.slice va d vc) D) ∧ Hid (Srt (L.take k) D) ∧ Below w.heap.size w wr) (fun _ i _ => n - (intOf i).toNat)
  case atStart => exact ⟨0, [], none, 0, 0, by omega, by omega, rfl, rfl, rfl, HO0, HS0, Below.refl _ _⟩
  case round =>
    obtain ⟨k, D, va, vc, d, hk, hdk, rfl, rfl, HD, HOr, HSr, bel⟩ := hrel
    by_cases hkn : k < n
    · have hkL : k < L.length := by rw [← HN.out]; exact hkn
      obtain ⟨b, off, rfl, hsA⟩ := HL.out.at hkL
      obtain ⟨x, hx⟩ : ∃ x, L[k]? = some x := ⟨_, List.getElem?_eq_getElem hkL⟩
      have hx32 := hL.get hx
      have hbB : b < w.heap.size := hsA.lt hL (by omega)
      have SX0 : Hid (w.rangeAt b (off + 32 * k) (hcs x)) := hsA k x hx
      have ixL := fun wx => indexH b off n cap k wx hkn
      have HX : Hid (L[k]? = some x) := hx
      clear hx hsA
      go_wp2
      go_loopw [5] (fun i wq => ∃ t : Nat, t ≤ d ∧ i = .int .i64 t ∧ Hid (∀ j y, j < t → D[j]? = some y → cmpL y x < 0) ∧ Hid (OwnH wq w.heap.size (.slice va d vc) D) ∧ Below w.heap.size w wq) (fun i _ => d - (intOf i).toNat)
      case atStart => exact ⟨0, by omega, rfl, (fun j y hj => by omega : ∀ j y, j < 0 → D[j]? = some y → cmpL y x < 0), HOr, bel⟩
      case round =>
        clear HOr bel
        obtain ⟨t, ht, rfl, HLo, HOr, bel⟩ := hrel
        have SX : Hid (wr.rangeAt b (off + 32 * k) (hcs x)) := rangeAt_below SX0.out bel hbB
        by_cases htd : t < d
        · have htD : t < D.length := by rw [← HD.out]; exact htd
          obtain ⟨y, hy⟩ : ∃ y, D[t]? = some y := ⟨_, List.getElem?_eq_getElem htD⟩
          have hy32 := HSr.out.2.1.get hy
          obtain ⟨g, rfl, hnc, hcm, hgB, hbox, hsg⟩ : ∃ g, va = some ⟨g, 0, none⟩ ∧ d ≤ vc ∧ vc ≤ maxLen ∧ w.heap.size ≤ g ∧ Box wr g vc ∧ Hs wr g 0 D := by
            obtain ⟨g, cg, hvg, hnc, hcm, hgB, hbox, hsg⟩ := HOr.out.box (by omega)
            simp only [Value.slice.injEq] at hvg
            obtain ⟨rfl, h2, rfl⟩ := hvg
            exact ⟨g, rfl, by omega, hcm, hgB, hbox, hsg⟩
          have SY : Hid (wr.rangeAt g (32 * t) (hcs y)) := (by have := hsg t y hy; rwa [Nat.zero_add] at this : wr.rangeAt g (32 * t) (hcs y))
          have ixD := fun wx => indexH g 0 d vc t wx htd
          simp only [Nat.zero_add] at ixD
          have HY : Hid (D[t]? = some y) := hy
          have HCm : Hid (∀ wx, Calls Tryz.prog 127 #[.agg (bs y), .agg (bs x)] wx fun e w' => e = .returned (.int .i64 (cmpL y x)) ∧ Below wx.heap.size wx w') := fun wx => rcmp_any y x hy32 hx32 wx
          have hne : Nonempty (ExtT wr) := ExtT.some wr
          have hgl : g < wr.heap.size := hbox.lt
          clear hy hsg hbox htD
          by_cases hc : cmpL y x < 0
          · have HL2 : Hid (∀ j z, j < t + 1 → D[j]? = some z → cmpL z x < 0) := fun j z hj hz => by
              by_cases e : j = t
              · subst e; rw [HY.out] at hz; cases hz; exact hc
              · exact HLo.out j z (by omega) hz
            generalize cmpL y x = c at *
            go_wp2_with fail
            refine wp_region_ext (by kernel_rfl) (by kernel_rfl) ?_
            repeat (first
              | (go_big_quiet_want; refine quiet_load_mid 36 _ rfl g (32 * t) rfl (bs y) _ (by rintro _ ⟨e, rfl⟩; exact e.range SY.out (hcs_pos hy32)) Tryz.underlying36 rfl (sizeH hy32) ?_; simp only [Act.put, List.setIfInBounds_toArray, List.set_cons_zero, List.set_cons_succ]; go_big_quiet_on)
              | (go_big_quiet_want; refine quiet_load_mid 36 _ rfl b (off + 32 * k) rfl (bs x) _ (by rintro _ ⟨e, rfl⟩; exact e.range SX.out (hcs_pos hx32)) Tryz.underlying36 rfl (sizeH hx32) ?_; simp only [Act.put, List.setIfInBounds_toArray, List.set_cons_zero, List.set_cons_succ]; go_big_quiet_on)
              | go_big_quiet_step (first | (go_at_call 127; exact ext_of (HCm.out _)) | fail))
            refine wpQuiet_nil ?_
            rintro w3 ⟨⟨_, bl3⟩, rfl⟩
            have O3 : Hid (OwnH w3 w.heap.size (.slice (some ⟨g, 0, none⟩) d vc) D) := HOr.out.below bl3
            have bel3 : Below w.heap.size w w3 := bel.trans (bl3.mono bel.size)
            clear bl3 hne SX SY HCm hc
            go_wp2
            exact ⟨⟨t + 1, by omega, by go_num, HL2, O3, bel3⟩, by simp [intOf]; omega⟩
          · have HXY : Hid (¬ y = x → cmpL x y < 0) := fun h => lt_of_not hx32 hy32 hc h
            generalize cmpL y x = c at *
            go_wp2_with fail
            refine wp_region_ext (by kernel_rfl) (by kernel_rfl) ?_
            repeat (first
              | (go_big_quiet_want; refine quiet_load_mid 36 _ rfl g (32 * t) rfl (bs y) _ (by rintro _ ⟨e, rfl⟩; exact e.range SY.out (hcs_pos hy32)) Tryz.underlying36 rfl (sizeH hy32) ?_; simp only [Act.put, List.setIfInBounds_toArray, List.set_cons_zero, List.set_cons_succ]; go_big_quiet_on)
              | (go_big_quiet_want; refine quiet_load_mid 36 _ rfl b (off + 32 * k) rfl (bs x) _ (by rintro _ ⟨e, rfl⟩; exact e.range SX.out (hcs_pos hx32)) Tryz.underlying36 rfl (sizeH hx32) ?_; simp only [Act.put, List.setIfInBounds_toArray, List.set_cons_zero, List.set_cons_succ]; go_big_quiet_on)
              | go_big_quiet_step (first | (go_at_call 127; exact ext_of (HCm.out _)) | fail))
            refine wpQuiet_nil ?_
            rintro w3 ⟨⟨_, bl3⟩, rfl⟩
            have O3 : Hid (OwnH w3 w.heap.size (.slice (some ⟨g, 0, none⟩) d vc) D) := HOr.out.below bl3
            have bel3 : Below w.heap.size w w3 := bel.trans (bl3.mono bel.size)
            have SX3 : Hid (w3.rangeAt b (off + 32 * k) (hcs x)) := rangeAt_below SX0.out bel3 hbB
            have SY3 : Hid (w3.rangeAt g (32 * t) (hcs y)) := rangeAt_below SY.out bl3 hgl
            have eqq := fun wx => eq23 y x hy32 hx32 wx
            clear bl3 hne SX SY HCm
            have hne : Nonempty (ExtT w3) := ExtT.some w3
            by_cases hyx : y = x
            · have hd : decide (y = x) = true := by simp [hyx]
              rw [hd] at eqq
              have HE : Hid (Srt (L.take (k + 1)) D) := srt_next HX.out HSr.out HSr.out.1 HSr.out.2.1 (fun z => ⟨fun h => .inl h, fun h => h.elim id (fun e => by rw [e, ← hyx]; exact List.mem_of_getElem? HY.out)⟩)
              clear hd hyx
              go_wp2_with fail
              refine wp_region_ext (by kernel_rfl) (by kernel_rfl) ?_
              repeat (first
                | (go_big_quiet_want; refine quiet_load_mid 36 _ rfl g (32 * t) rfl (bs y) _ (by rintro _ ⟨e, rfl⟩; exact e.range SY3.out (hcs_pos hy32)) Tryz.underlying36 rfl (sizeH hy32) ?_; simp only [Act.put, List.setIfInBounds_toArray, List.set_cons_zero, List.set_cons_succ]; go_big_quiet_on)
                | (go_big_quiet_want; refine quiet_load_mid 36 _ rfl b (off + 32 * k) rfl (bs x) _ (by rintro _ ⟨e, rfl⟩; exact e.range SX3.out (hcs_pos hx32)) Tryz.underlying36 rfl (sizeH hx32) ?_; simp only [Act.put, List.setIfInBounds_toArray, List.set_cons_zero, List.set_cons_succ]; go_big_quiet_on)
                | go_big_quiet_step (fail))
              refine wpQuiet_nil ?_
              rintro w4 ⟨⟨_, bl4⟩, rfl⟩
              have OW4 : Hid (OwnH w4 w.heap.size (.slice (some ⟨g, 0, none⟩) d vc) D) := O3.out.below bl4
              have bel4 : Below w.heap.size w w4 := bel3.trans (bl4.mono bel3.size)
              clear bl4 hne O3 bel3 SX3 SY3
              go_wp2
              exact ⟨⟨k + 1, D, some ⟨g, 0, none⟩, vc, d, by omega, by omega, by go_num, rfl, HD, OW4, HE, bel4⟩, by simp [intOf]; omega⟩
            · have hd : decide (y = x) = false := by simp [hyx]
              rw [hd] at eqq
              have HHi : Hid (∀ z, D[t]? = some z → cmpL x z < 0) := fun z hz => by
                rw [HY.out] at hz
                cases hz
                exact HXY.out hyx
              clear hd hyx
              go_wp2_with fail
              refine wp_region_ext (by kernel_rfl) (by kernel_rfl) ?_
              repeat (first
                | (go_big_quiet_want; refine quiet_load_mid 36 _ rfl g (32 * t) rfl (bs y) _ (by rintro _ ⟨e, rfl⟩; exact e.range SY3.out (hcs_pos hy32)) Tryz.underlying36 rfl (sizeH hy32) ?_; simp only [Act.put, List.setIfInBounds_toArray, List.set_cons_zero, List.set_cons_succ]; go_big_quiet_on)
                | (go_big_quiet_want; refine quiet_load_mid 36 _ rfl b (off + 32 * k) rfl (bs x) _ (by rintro _ ⟨e, rfl⟩; exact e.range SX3.out (hcs_pos hx32)) Tryz.underlying36 rfl (sizeH hx32) ?_; simp only [Act.put, List.setIfInBounds_toArray, List.set_cons_zero, List.set_cons_succ]; go_big_quiet_on)
                | go_big_quiet_step (fail))
              refine wpQuiet_nil ?_
              rintro w4 ⟨⟨_, bl4⟩, rfl⟩
              have OW4 : Hid (OwnH w4 w.heap.size (.slice (some ⟨g, 0, none⟩) d vc) D) := O3.out.below bl4
              have bel4 : Below w.heap.size w w4 := bel3.trans (bl4.mono bel3.size)
              clear bl4 hne O3 bel3 SX3 SY3
              have O1 : Hid (OwnH (w4.alloc (.cells (bs z32) 36)) w.heap.size (.slice (some ⟨g, 0, none⟩) d vc) D) := OW4.out.below ((Below.refl _ _).alloc (Nat.le_refl _) _)
              have be1 : Below w.heap.size w (w4.alloc (.cells (bs z32) 36)) := bel4.alloc bel4.size _
              have B1 : Hid (Hl (w4.alloc (.cells (bs z32) 36)) (some ⟨w4.heap.size, 0, none⟩) [z32]) := hl_one w4
              have A1 : Hid (All32 [z32]) := (fun y h => by simp at h; subst h; exact z32_len : All32 [z32])
              have S1 : Hid (D.length + ([z32] : List (List UInt8)).length ≤ 4398046511104 + 4096) := (by rw [← HD.out]; simp; omega : D.length + ([z32] : List (List UInt8)).length ≤ 4398046511104 + 4096)
              have Z1 : Hid (w.heap.size ≤ (w4.alloc (.cells (bs z32) 36)).heap.size) := be1.size
              go_wp2_with (first | (at_builtin; refine wpList_appH rfl (.tmp 46) (.tmp 48) rfl w.heap.size (.slice (some ⟨g, 0, none⟩) d vc) D rfl O1.out ⟨w4.heap.size, 0, none⟩ 1 1 [z32] rfl rfl A1.out B1.out S1.out Z1.out ?_) | fail)
              intro v5 w5 own5 grow5 hv5
              have be5 : Below w.heap.size w w5 := be1.grown grow5 Z1.out (fun k hk => (World.ownsRow.lt O1.out.2 k hk).1)
              have hz5 : (D ++ [z32]).length = d + 1 := by rw [List.length_append, ← HD.out]; rfl
              obtain ⟨g5, c5, rfl, hc5, hm5, hg5, hbox5, hs5⟩ := own5.box (by omega)
              rw [hz5] at hc5 ⊢
              have HB5 : Hid (Box w5 g5 c5) := hbox5
              have HS5 : Hid (Hs w5 g5 0 (D ++ [z32])) := hs5
              have HF5 : Hid (Shf D (D ++ [z32]) d) := (by have := shf_zero HSr.out.2.1; rwa [← HD.out] at this : Shf D (D ++ [z32]) d)
              have HM5 : Hid (c5 ≤ maxLen) := hm5
              clear own5 grow5 hv5 hz5 hbox5 hs5 hm5 O1 B1 A1 S1 Z1 be1 OW4 bel4
              go_wp2
              go_loopw [6] (fun i wq => ∃ (m : Nat) (X : List (List UInt8)), t ≤ m ∧ m ≤ d ∧ i = .int .i64 m ∧ Hid (Shf D X m) ∧ Hid (Hs wq g5 0 X) ∧ Hid (Box wq g5 c5) ∧ Below w.heap.size w wq) (fun i _ => (intOf i).toNat)
              case atStart => exact ⟨d, D ++ [z32], by omega, Nat.le_refl _, by go_num, HF5, HS5, HB5, be5⟩
              case round =>
                clear HF5 HS5 HB5 be5 bel
                obtain ⟨m, X, htm, hmd, rfl, HF, HSx, HBx, bel⟩ := hrel
                by_cases hlt : t < m
                · obtain ⟨q, hq⟩ : ∃ q, D[m - 1]? = some q := ⟨_, List.getElem?_eq_getElem (by have := HD.out; omega)⟩
                  have hq32 := HSr.out.2.1.get hq
                  have SQ : Hid (wr.rangeAt g5 (32 * (m - 1)) (hcs q)) := (by have := HSx.out (m - 1) q ((HF.out.2.2.1 (m - 1) (by omega)).trans hq); rwa [Nat.zero_add] at this : wr.rangeAt g5 (32 * (m - 1)) (hcs q))
                  have ix1 : ∀ wx, (Instr.indexAt 37 (.slice (some ⟨g5, 0, none⟩) (d + 1) c5) (.int .i64 ((m : Int) - 1))).run Tryz.prog wx = .ok (.pointer (some ⟨g5, 32 * (m - 1), none⟩)) wx := fun wx => (by
                    have := indexH g5 0 (d + 1) c5 (m - 1) wx (by omega)
                    rwa [Nat.zero_add, show ((m - 1 : Nat) : Int) = (m : Int) - 1 by omega] at this)
                  have ix2 := fun wx => indexH g5 0 (d + 1) c5 m wx (by omega)
                  simp only [Nat.zero_add] at ix2
                  have hXl : X.length = d + 1 := by rw [HF.out.1, ← HD.out]
                  have HTm : Hid (wr.there g5 (32 * m) 32) := (by have := there_part (m := 32) (i := 32 * m) (HBx.out.there hc5) (by omega); rwa [Nat.zero_add] at this : wr.there g5 (32 * m) 32)
                  have HF2 : Hid (Shf D (X.set m q) (m - 1)) := shf_step HF.out (by omega) (by have := HD.out; omega) hq hq32
                  have HS2 : Hid (Hs (wr.setCells g5 (32 * m) (hcs q)) g5 0 (X.set m q)) := (by
                    have := Hs.set HSx.out HF.out.2.1 m q hq32 (by omega) (by rw [Nat.zero_add]; exact HTm.out)
                    rwa [Nat.zero_add] at this : Hs (wr.setCells g5 (32 * m) (hcs q)) g5 0 (X.set m q))
                  have HB2 : Hid (Box (wr.setCells g5 (32 * m) (hcs q)) g5 c5) := box_setCells g5 c5 _ _ _ HBx.out
                  have bel2 : Below w.heap.size w (wr.setCells g5 (32 * m) (hcs q)) := below_setCells bel hg5 _ _
                  clear hq HF HSx HBx hXl
                  go_wp2_with (first
                    | (refine wpList_load_mid rfl 36 _ rfl g5 (32 * (m - 1)) rfl (hcs q) _ SQ.out Tryz.underlying36 rfl (by rw [hcs_len, hq32]; exact hsH) ?_; rw [hcs_arr])
                    | (refine wpList_store_mid rfl 36 _ _ rfl g5 (32 * m) (bs q) rfl rfl (by rw [bs_size, hq32]; exact HTm.out) (by rw [bs_size, hq32]; exact hsH) (bs_one _) ?_)
                    | fail)
                  exact ⟨⟨m - 1, X.set m q, by omega, by omega, int_pred (by omega), HF2, HS2, HB2, bel2⟩, by simp [intOf]; omega⟩
                · obtain rfl : t = m := by omega
                  have SX5 : Hid (wr.rangeAt b (off + 32 * k) (hcs x)) := rangeAt_below SX0.out bel hbB
                  have ix2 := fun wx => indexH g5 0 (d + 1) c5 t wx (by omega)
                  simp only [Nat.zero_add] at ix2
                  have HTm : Hid (wr.there g5 (32 * t) 32) := (by have := there_part (m := 32) (i := 32 * t) (HBx.out.there hc5) (by omega); rwa [Nat.zero_add] at this : wr.there g5 (32 * t) 32)
                  have hXl : X.length = d + 1 := by rw [HF.out.1, ← HD.out]
                  have HI : Hid (X.set t x = ins D t x) := shf_end HF.out (by rw [← HD.out]; omega)
                  have hil : (ins D t x).length = d + 1 := by rw [ins_len, ← HD.out]
                  have HS2 : Hid (Hs (wr.setCells g5 (32 * t) (hcs x)) g5 0 (ins D t x)) := (by
                    have := Hs.set HSx.out HF.out.2.1 t x hx32 (by omega) (by rw [Nat.zero_add]; exact HTm.out)
                    rwa [Nat.zero_add, HI.out] at this : Hs (wr.setCells g5 (32 * t) (hcs x)) g5 0 (ins D t x))
                  have HI32 : Hid (All32 (ins D t x)) := all32_ins HSr.out.2.1 t hx32
                  have HO2 : Hid (OwnH (wr.setCells g5 (32 * t) (hcs x)) w.heap.size (.slice (some ⟨g5, 0, none⟩) (d + 1) c5) (ins D t x)) := (by
                    have := ownH_mk (base := w.heap.size) HI32.out (box_setCells g5 c5 _ _ _ HBx.out) (by rw [hil]; exact hc5) HM5.out hg5 HS2.out
                    rwa [hil] at this : OwnH (wr.setCells g5 (32 * t) (hcs x)) w.heap.size (.slice (some ⟨g5, 0, none⟩) (d + 1) c5) (ins D t x))
                  have HI1 : Hid (d + 1 = (ins D t x).length) := hil.symm
                  have HS3 : Hid (Srt (L.take (k + 1)) (ins D t x)) := srt_next HX.out HSr.out (srise_ins HSr.out.2.1 HSr.out.1 hx32 (by rw [← HD.out]; omega) HLo.out HHi.out) HI32.out (fun y => ins_mem D t x y)
                  have bel2 : Below w.heap.size w (wr.setCells g5 (32 * t) (hcs x)) := below_setCells bel hg5 _ _
                  clear HF HSx HBx hXl hil HI HS2
                  go_wp2_with (first
                    | (refine wpList_load_mid rfl 36 _ rfl b (off + 32 * k) rfl (hcs x) _ SX5.out Tryz.underlying36 rfl (by rw [hcs_len, hx32]; exact hsH) ?_; rw [hcs_arr])
                    | (refine wpList_store_mid rfl 36 _ _ rfl g5 (32 * t) (bs x) rfl rfl (by rw [bs_size, hx32]; exact HTm.out) (by rw [bs_size, hx32]; exact hsH) (bs_one _) ?_)
                    | fail)
                  exact ⟨⟨k + 1, ins D t x, some ⟨g5, 0, none⟩, c5, d + 1, by omega, by omega, by go_num, rfl, HI1, HO2, HS3, bel2⟩, by simp [intOf]; omega⟩
        · obtain rfl : t = d := by omega
          have hne : Nonempty (ExtT wr) := ExtT.some wr
          go_wp2_with fail
          refine wp_region_ext (by kernel_rfl) (by kernel_rfl) ?_
          repeat (go_big_quiet_step (fail))
          refine wpQuiet_nil ?_
          rintro w3 ⟨⟨_, bl3⟩, rfl⟩
          have O3 : Hid (OwnH w3 w.heap.size (.slice va t vc) D) := HOr.out.below bl3
          have bel3 : Below w.heap.size w w3 := bel.trans (bl3.mono bel.size)
          clear bl3 hne SX
          have hne : Nonempty (ExtT w3) := ExtT.some w3
          go_wp2_with fail
          refine wp_region_ext (by kernel_rfl) (by kernel_rfl) ?_
          repeat (go_big_quiet_step (fail))
          refine wpQuiet_nil ?_
          rintro w4 ⟨⟨_, bl4⟩, rfl⟩
          have OW4 : Hid (OwnH w4 w.heap.size (.slice va t vc) D) := O3.out.below bl4
          have bel4 : Below w.heap.size w w4 := bel3.trans (bl4.mono bel3.size)
          clear bl4 hne O3 bel3
          have HHi : Hid (∀ y, D[t]? = some y → cmpL x y < 0) := fun y hy => by have := (List.getElem?_eq_some_iff.1 hy).1; have := HD.out; omega
          have O1 : Hid (OwnH (w4.alloc (.cells (bs z32) 36)) w.heap.size (.slice va t vc) D) := OW4.out.below ((Below.refl _ _).alloc (Nat.le_refl _) _)
          have be1 : Below w.heap.size w (w4.alloc (.cells (bs z32) 36)) := bel4.alloc bel4.size _
          have B1 : Hid (Hl (w4.alloc (.cells (bs z32) 36)) (some ⟨w4.heap.size, 0, none⟩) [z32]) := hl_one w4
          have A1 : Hid (All32 [z32]) := (fun y h => by simp at h; subst h; exact z32_len : All32 [z32])
          have S1 : Hid (D.length + ([z32] : List (List UInt8)).length ≤ 4398046511104 + 4096) := (by rw [← HD.out]; simp; omega : D.length + ([z32] : List (List UInt8)).length ≤ 4398046511104 + 4096)
          have Z1 : Hid (w.heap.size ≤ (w4.alloc (.cells (bs z32) 36)).heap.size) := be1.size
          go_wp2_with (first | (at_builtin; refine wpList_appH rfl (.tmp 46) (.tmp 48) rfl w.heap.size (.slice va t vc) D rfl O1.out ⟨w4.heap.size, 0, none⟩ 1 1 [z32] rfl rfl A1.out B1.out S1.out Z1.out ?_) | fail)
          intro v5 w5 own5 grow5 hv5
          have be5 : Below w.heap.size w w5 := be1.grown grow5 Z1.out (fun k hk => (World.ownsRow.lt O1.out.2 k hk).1)
          have hz5 : (D ++ [z32]).length = t + 1 := by rw [List.length_append, ← HD.out]; rfl
          obtain ⟨g5, c5, rfl, hc5, hm5, hg5, hbox5, hs5⟩ := own5.box (by omega)
          rw [hz5] at hc5 ⊢
          have HB5 : Hid (Box w5 g5 c5) := hbox5
          have HS5 : Hid (Hs w5 g5 0 (D ++ [z32])) := hs5
          have HF5 : Hid (Shf D (D ++ [z32]) t) := (by have := shf_zero HSr.out.2.1; rwa [← HD.out] at this : Shf D (D ++ [z32]) t)
          have HM5 : Hid (c5 ≤ maxLen) := hm5
          clear own5 grow5 hv5 hz5 hbox5 hs5 hm5 O1 B1 A1 S1 Z1 be1 OW4 bel4
          go_wp2
          go_loopw [6] (fun i wq => ∃ (m : Nat) (X : List (List UInt8)), t ≤ m ∧ m ≤ t ∧ i = .int .i64 m ∧ Hid (Shf D X m) ∧ Hid (Hs wq g5 0 X) ∧ Hid (Box wq g5 c5) ∧ Below w.heap.size w wq) (fun i _ => (intOf i).toNat)
          case atStart => exact ⟨t, D ++ [z32], by omega, Nat.le_refl _, by go_num, HF5, HS5, HB5, be5⟩
          case round =>
            clear HF5 HS5 HB5 be5 bel
            obtain ⟨m, X, htm, hmd, rfl, HF, HSx, HBx, bel⟩ := hrel
            by_cases hlt : t < m
            · omega
            · obtain rfl : t = m := by omega
              have SX5 : Hid (wr.rangeAt b (off + 32 * k) (hcs x)) := rangeAt_below SX0.out bel hbB
              have ix2 := fun wx => indexH g5 0 (t + 1) c5 t wx (by omega)
              simp only [Nat.zero_add] at ix2
              have HTm : Hid (wr.there g5 (32 * t) 32) := (by have := there_part (m := 32) (i := 32 * t) (HBx.out.there hc5) (by omega); rwa [Nat.zero_add] at this : wr.there g5 (32 * t) 32)
              have hXl : X.length = t + 1 := by rw [HF.out.1, ← HD.out]
              have HI : Hid (X.set t x = ins D t x) := shf_end HF.out (by rw [← HD.out]; omega)
              have hil : (ins D t x).length = t + 1 := by rw [ins_len, ← HD.out]
              have HS2 : Hid (Hs (wr.setCells g5 (32 * t) (hcs x)) g5 0 (ins D t x)) := (by
                have := Hs.set HSx.out HF.out.2.1 t x hx32 (by omega) (by rw [Nat.zero_add]; exact HTm.out)
                rwa [Nat.zero_add, HI.out] at this : Hs (wr.setCells g5 (32 * t) (hcs x)) g5 0 (ins D t x))
              have HI32 : Hid (All32 (ins D t x)) := all32_ins HSr.out.2.1 t hx32
              have HO2 : Hid (OwnH (wr.setCells g5 (32 * t) (hcs x)) w.heap.size (.slice (some ⟨g5, 0, none⟩) (t + 1) c5) (ins D t x)) := (by
                have := ownH_mk (base := w.heap.size) HI32.out (box_setCells g5 c5 _ _ _ HBx.out) (by rw [hil]; exact hc5) HM5.out hg5 HS2.out
                rwa [hil] at this : OwnH (wr.setCells g5 (32 * t) (hcs x)) w.heap.size (.slice (some ⟨g5, 0, none⟩) (t + 1) c5) (ins D t x))
              have HI1 : Hid (t + 1 = (ins D t x).length) := hil.symm
              have HS3 : Hid (Srt (L.take (k + 1)) (ins D t x)) := srt_next HX.out HSr.out (srise_ins HSr.out.2.1 HSr.out.1 hx32 (by rw [← HD.out]; omega) HLo.out HHi.out) HI32.out (fun y => ins_mem D t x y)
              have bel2 : Below w.heap.size w (wr.setCells g5 (32 * t) (hcs x)) := below_setCells bel hg5 _ _
              clear HF HSx HBx hXl hil HI HS2
              go_wp2_with (first
                | (refine wpList_load_mid rfl 36 _ rfl b (off + 32 * k) rfl (hcs x) _ SX5.out Tryz.underlying36 rfl (by rw [hcs_len, hx32]; exact hsH) ?_; rw [hcs_arr])
                | (refine wpList_store_mid rfl 36 _ _ rfl g5 (32 * t) (bs x) rfl rfl (by rw [bs_size, hx32]; exact HTm.out) (by rw [bs_size, hx32]; exact hsH) (bs_one _) ?_)
                | fail)
              exact ⟨⟨k + 1, ins D t x, some ⟨g5, 0, none⟩, c5, t + 1, by omega, by omega, by go_num, rfl, HI1, HO2, HS3, bel2⟩, by simp [intOf]; omega⟩
    · obtain rfl : k = n := by omega
      have HE : Hid (Srt L D) := (by have := HSr.out; rwa [HN.out, List.take_length] at this : Srt L D)
      go_wp2
      go_ret
      exact ⟨_, D, rfl, HE.out, HOr.out, bel⟩
end Go.Proofs.YtgiblfhajiakgaaGreatDoor

namespace Go.Proofs.YtgiblfhajiakgaaGreatDoor.K
open Go.RowKit
set_option linter.unusedVariables false
set_option linter.unusedSimpArgs false

variable {p : Nat} {g : Option Nat} {M : List UInt8} {e : Int}
set_option maxRecDepth 100000 in
set_option maxHeartbeats 2000000 in
theorem put_any (k : UInt8) (kv : Int) (hk : kv = (k.toNat : Int)) (w : World) (hw : WS w 31 p g M e) (hsum : M.length + 1 ≤ 140737488355328) :
    Calls Tryz.prog 56 #[.pointer (some ⟨p, 0, none⟩), .int .u8 kv] w fun x w' => x = .returned (.tuple #[]) ∧ Wr w w' 31 p g (wA M e [k]) e := by
  subst hk
  by_cases he : e = 0
  · subst he
    rw [wA_0]
    have hne := hw.ne
    obtain ⟨v, hq, own, hg⟩ := hw.ex
    have zq : p < w.heap.size := (Array.getElem?_eq_some_iff.1 hq).1
    have c0 := (cell_of_row w p 0 _ _ _ hq).trans (show (#[v, .int .i64 0] : Array Value)[0]? = some v from rfl)
    have c1 := (cell_of_row w p 1 _ _ _ hq).trans (show (#[v, .int .i64 0] : Array Value)[1]? = some (.int .i64 0) from rfl)
    have be : Below w.heap.size w (w.alloc (.cells (bs [k]) 5)) := (Below.refl _ _).alloc (Nat.le_refl _) _
    have hqA : (w.alloc (.cells (bs [k]) 5)).heap[p]? = some (.cells #[v, .int .i64 0] 31 (0, 0)) := (be.block p zq).trans hq
    obtain ⟨av, cv, rfl, hcv, byv, hav⟩ := own.open
    have HO : Hid (OwnB (w.alloc (.cells #[.int .u8 (k.toNat : Int)] 5)) 0 (.slice av M.length cv) M) := own.below be
    have HB : Hid (Byt (w.alloc (.cells #[.int .u8 (k.toNat : Int)] 5)) (some ⟨w.heap.size, 0, none⟩) [k]) := byt_lit w [k] 5
    have HS : Hid (M.length + [k].length ≤ 140737488355328) := by show _ ≤ _; simpa using hsum
    have HQ : Hid ((w.alloc (.cells #[.int .u8 (k.toNat : Int)] 5)).heap[p]? = some (.cells #[.slice av M.length cv, .int .i64 0] 31 (0, 0))) := hqA
    have HE : Hid (Below w.heap.size w (w.alloc (.cells #[.int .u8 (k.toNat : Int)] 5))) := be
    have HG := Hid.mk' hg
    clear hsum hqA be hg hw
    go_enter Tryz.func56, Tryz.ntmps56
    go_wp2_with (first | (at_builtin; refine wpList_app2 rfl (.tmp 17) (.tmp 19) rfl 0 (.slice av M.length cv) M rfl HO.out (some ⟨w.heap.size, 0, none⟩) 1 1 [k] rfl rfl HB.out HS.out (Nat.zero_le _) ?_) | fail)
    intro v' w1 own1 gr1 hblk
    have zqA : p < (w.alloc (.cells #[.int .u8 (k.toNat : Int)] 5)).heap.size := by simp; omega
    have zA : (w.alloc (.cells #[.int .u8 (k.toNat : Int)] 5)).heap.size = w.heap.size + 1 := by simp
    have hq1 : w1.heap[p]? = some (.cells #[.slice av M.length cv, .int .i64 0] 31 (0, 0)) := by rw [gr1.block p zqA (fun e => hne (HG.out.symm.trans e.symm))]; exact HQ.out
    have d0 := (cell_of_row w1 p 0 _ _ _ hq1).trans (show (#[.slice av M.length cv, .int .i64 0] : Array Value)[0]? = some (.slice av M.length cv) from rfl)
    have f0 := frozen_of_row w1 p 0 _ _ hq1
    have hblk' : Nw g v'.ownBlock w.heap.size := by
      rcases hblk with e | e
      · exact .inl (e.trans HG.out)
      · exact .inr ⟨_, e, by omega⟩
    have hne1 : v'.ownBlock ≠ some p := by
      rcases hblk' with e | ⟨k, e, hk⟩
      · rw [e]; exact hne
      · rw [e]; intro h; simp at h; omega
    have W1 : Hid (Wr w (w1.setCell ⟨p, 0, none⟩ v') 31 p g (M ++ [k]) 0) := by
      refine ⟨v'.ownBlock, ⟨⟨v', by rw [heap_setCell_same w1 p 0 _ 31 _ hq1]; rfl, own_setCell own1 hne1, rfl⟩, hne1⟩, ⟨gr1.os.trans HE.out.os, gr1.tape.trans HE.out.tape, gr1.output.trans HE.out.output, by simp [World.setCell]; have := gr1.size; omega, fun i hi hp hn => ?_⟩, hblk'⟩
      rw [Below.heap_setCell _ _ _ _ hp, gr1.block i (by omega) (fun e => hn (e.trans HG.out)), HE.out.block i hi]
    obtain ⟨av', cv', rfl, _⟩ := own1.open
    rw [List.length_append] at W1
    clear own1 gr1 hblk hblk' hne1 HO HB HS HQ HE HG zA zqA
    go_wp2
    go_end0
    exact ⟨rfl, W1.out⟩
  · rw [wA_no M [k] e he]
    obtain ⟨v, hq, own, hg⟩ := hw.ex
    have c1 := (cell_of_row w p 1 _ _ _ hq).trans (show (#[v, .int .i64 e] : Array Value)[1]? = some (.int .i64 e) from rfl)
    have HW := Hid.mk' hw.wr
    clear hw own hg hq
    go_enter Tryz.func56, Tryz.ntmps56
    go_wp2
    go_end0
    exact ⟨rfl, HW.out⟩
end Go.Proofs.YtgiblfhajiakgaaGreatDoor.K

namespace Go.Proofs.YtgiblfhajiakgaaGreatDoor.K
open Go.RowKit
set_option linter.unusedVariables false
set_option linter.unusedSimpArgs false

variable {p : Nat} {g : Option Nat} {M : List UInt8} {e : Int}
set_option maxRecDepth 100000 in
set_option maxHeartbeats 1000000 in
theorem xbyte_any (k : UInt8) (kv : Int) (hk : kv = (k.toNat : Int)) (w : World) (hw : WS w 31 p g M e) (hsum : M.length + 1 ≤ 140737488355328) :
    Calls Tryz.prog 14 #[.pointer (some ⟨p, 0, none⟩), .int .u8 kv] w fun x w' => x = .returned (.tuple #[]) ∧ Wr w w' 31 p g (wA M e [k]) e := by
  subst hk
  have H := Hid.mk' (put_any k _ rfl w hw hsum)
  clear hw
  go_enter Tryz.func14, Tryz.ntmps14
  go_wp2_with fail
  refine H.out.mono ?_
  rintro x w1 ⟨rfl, ho⟩
  have HO := Hid.mk' ho
  clear ho
  go_wp2
  go_end0
  exact ⟨rfl, HO.out⟩
set_option maxRecDepth 100000 in
set_option maxHeartbeats 1000000 in
theorem xbool_any (b : Bool) (w : World) (hw : WS w 31 p g M e) (hsum : M.length + 1 ≤ 140737488355328) :
    Calls Tryz.prog 44 #[.pointer (some ⟨p, 0, none⟩), .bool b] w fun x w' => x = .returned (.tuple #[]) ∧ Wr w w' 31 p g (wA M e [if b = true then 1 else 0]) e := by
  have H0 := Hid.mk' (put_any 0 0 rfl w hw hsum)
  have H1 := Hid.mk' (put_any 1 1 rfl w hw hsum)
  clear hw
  cases b
  · go_enter Tryz.func44, Tryz.ntmps44
    go_wp2_with fail
    refine H0.out.mono ?_
    rintro x w1 ⟨rfl, ho⟩
    have HO := Hid.mk' ho
    clear ho
    go_wp2
    go_end0
    exact ⟨rfl, HO.out⟩
  · go_enter Tryz.func44, Tryz.ntmps44
    go_wp2_with fail
    refine H1.out.mono ?_
    rintro x w1 ⟨rfl, ho⟩
    have HO := Hid.mk' ho
    clear ho
    go_wp2
    exact bodyPost_ret (results_none Tryz.results44 _ _ _) rfl ⟨rfl, HO.out⟩
set_option maxRecDepth 100000 in
set_option maxHeartbeats 1000000 in
theorem xuint_any (v : Nat) (hv : v < 18446744073709551616) (w : World) (hw : WS w 31 p g M e) (hsum : M.length + 64 ≤ 140737488355328) :
    Calls Tryz.prog 46 #[.pointer (some ⟨p, 0, none⟩), .int .u64 (v : Int)] w fun x w' => x = .returned (.tuple #[]) ∧ Wr w w' 31 p g (wA M e (vint v)) e := by
  have HV : Hid ((vint v).length ≤ 10) := vint_10 v hv
  have HS : Hid (M.length + 64 ≤ 140737488355328) := hsum
  clear hsum
  go_enter Tryz.func46, Tryz.ntmps46
  go_wp2_with fail
  go_loopw [1] (fun x wr => ∃ (n : Nat) (P : List UInt8), x = .int .u64 (n : Int) ∧ n < 18446744073709551616 ∧ Hid (P ++ vint n = vint v) ∧ Hid (Wr w wr 31 p g (wA M e P) e)) (fun x _ => (intOf x).toNat)
  case atStart => exact ⟨v, [], rfl, hv, rfl, by show Wr _ _ _ _ _ _ _; rw [wA_nil]; exact hw.wr⟩
  case round =>
    clear hw
    obtain ⟨n, P, rfl, hn, HP, HW⟩ := hrel
    obtain ⟨g1, ws, fr, nw⟩ := HW.out
    have hPl : P.length ≤ 10 := by
      have h1 := HV.out
      rw [← HP.out, List.length_append] at h1
      omega
    have hwl : (wA M e P).length + 1 ≤ 140737488355328 := by have := wA_len M e P; have := HS.out; omega
    by_cases hlt : n < 128
    · have hlt' : (n : Int) < 128 := by omega
      have H := Hid.mk' ((put_any (UInt8.ofNat n) (n : Int) (by rw [UInt8.toNat_ofNat']; omega) wr ws hwl).mono fun x w' h => And.intro h.1 (Wr.step fr nw h.2))
      rw [wA_wA, show P ++ [UInt8.ofNat n] = vint v by rw [← HP.out, vint_lt hlt]] at H
      clear ws fr nw HW HP hwl
      go_wp2_with fail
      refine H.out.mono ?_
      rintro x w1 ⟨rfl, ho⟩
      have HO := Hid.mk' ho
      clear ho
      go_wp2
      go_end0
      exact ⟨rfl, HO.out⟩
    · have hlt' : ¬ (n : Int) < 128 := by omega
      have H : Hid (∀ kv : Int, kv = ((UInt8.ofNat (n % 128 + 128)).toNat : Int) → Calls Tryz.prog 56 #[.pointer (some ⟨p, 0, none⟩), .int .u8 kv] wr fun x w' => x = .returned (.tuple #[]) ∧ Wr w w' 31 p g (wA M e (P ++ [UInt8.ofNat (n % 128 + 128)])) e) := fun kv hk => (put_any (UInt8.ofNat (n % 128 + 128)) kv hk wr ws hwl).mono fun x w' h => by
        rw [wA_wA] at h
        exact And.intro h.1 (Wr.step fr nw h.2)
      clear ws fr nw HW hwl
      have hP2 : Hid (P ++ [UInt8.ofNat (n % 128 + 128)] ++ vint (n / 128) = vint v) := by
        show _ = _
        rw [← HP.out, vint_ge hlt]
        simp
      go_wp2_with fail
      refine (H.out _ (by first | rfl | (rw [UInt8.toNat_ofNat']; omega))).mono ?_
      rintro x w1 ⟨rfl, ho⟩
      have HO := Hid.mk' ho
      clear ho
      go_wp2
      exact ⟨⟨n / 128, P ++ [UInt8.ofNat (n % 128 + 128)], by first | rfl | (congr 1; omega), by omega, hP2, HO⟩, by simp [intOf]; omega⟩
set_option maxRecDepth 100000 in
set_option maxHeartbeats 1000000 in
theorem xfix_any (n : Nat) (hn : n < 4294967296) (w : World) (hw : WS w 31 p g M e) (hsum : M.length + 4 ≤ 140737488355328) :
    Calls Tryz.prog 45 #[.pointer (some ⟨p, 0, none⟩), .int .u32 (n : Int)] w fun x w' => x = .returned (.tuple #[]) ∧ Wr w w' 31 p g (wA M e (b4 n)) e := by
  have H : Hid (∀ (P : List UInt8) (k : UInt8) (kv : Int) (wx : World), P.length ≤ 3 → kv = (k.toNat : Int) → Wr w wx 31 p g (wA M e P) e → Calls Tryz.prog 56 #[.pointer (some ⟨p, 0, none⟩), .int .u8 kv] wx fun x w' => x = .returned (.tuple #[]) ∧ Wr w w' 31 p g (wA M e (P ++ [k])) e) := fun P k kv wx hP hk hx => by
    obtain ⟨g1, ws, fr, nw⟩ := hx
    refine (put_any k kv hk wx ws (by have := wA_len M e P; omega)).mono fun x w' h => ?_
    rw [wA_wA] at h
    exact And.intro h.1 (Wr.step fr nw h.2)
  have h0 : Hid (Wr w w 31 p g (wA M e []) e) := by show Wr _ _ _ _ _ _ _; rw [wA_nil]; exact hw.wr
  clear hw hsum
  go_enter Tryz.func45, Tryz.ntmps45
  go_wp2_with fail
  refine (H.out [] (UInt8.ofNat (n / 16777216)) _ _ (by decide) (by rw [UInt8.toNat_ofNat']; omega) h0.out).mono ?_
  rintro x w1 ⟨rfl, a1⟩
  have A1 := Hid.mk' a1
  clear a1
  go_wp2_with fail
  refine (H.out _ (UInt8.ofNat (n / 65536)) _ _ (by simp) (by rw [UInt8.toNat_ofNat']; omega) A1.out).mono ?_
  rintro x w2 ⟨rfl, a2⟩
  have A2 := Hid.mk' a2
  clear a2
  go_wp2_with fail
  refine (H.out _ (UInt8.ofNat (n / 256)) _ _ (by simp) (by rw [UInt8.toNat_ofNat']; omega) A2.out).mono ?_
  rintro x w3 ⟨rfl, a3⟩
  have A3 := Hid.mk' a3
  clear a3
  go_wp2_with fail
  refine (H.out _ (UInt8.ofNat n) _ _ (by simp) (by rw [UInt8.toNat_ofNat']; omega) A3.out).mono ?_
  rintro x w4 ⟨rfl, a4⟩
  have A4 := Hid.mk' a4
  clear a4
  go_wp2
  go_end0
  exact ⟨rfl, A4.out⟩
set_option maxRecDepth 100000 in
set_option maxHeartbeats 1000000 in
theorem xint_any (n : Int) (h0 : -9223372036854775808 ≤ n) (h1 : n < 9223372036854775808) (w : World) (hw : WS w 31 p g M e) (hsum : M.length + 64 ≤ 140737488355328) :
    Calls Tryz.prog 47 #[.pointer (some ⟨p, 0, none⟩), .int .i64 n] w fun x w' => x = .returned (.tuple #[]) ∧ Wr w w' 31 p g (wA M e (vint (zig n))) e := by
  have hz : zig n < 18446744073709551616 := by unfold zig; split <;> omega
  have H : Hid (∀ v : Int, v = (zig n : Int) → Calls Tryz.prog 46 #[.pointer (some ⟨p, 0, none⟩), .int .u64 v] w fun x w' => x = .returned (.tuple #[]) ∧ Wr w w' 31 p g (wA M e (vint (zig n))) e) := fun v hv => by rw [hv]; exact xuint_any (zig n) hz w hw hsum
  clear hw hsum
  by_cases hn : n < 0
  · have hn' : ¬ 0 ≤ n := by omega
    go_enter Tryz.func47, Tryz.ntmps47
    go_wp2_with fail
    refine (H.out _ ?_).mono ?_
    · unfold zig
      rw [if_pos (by omega)]
      first | omega | (rw [IntKind.wrap_u64]; omega) | (rw [IntKind.wrap_u64, IntKind.wrap_u64]; omega)
    rintro x w1 ⟨rfl, ho⟩
    have HO := Hid.mk' ho
    clear ho
    go_wp2
    go_end0
    exact ⟨rfl, HO.out⟩
  · have hn' : 0 ≤ n := by omega
    go_enter Tryz.func47, Tryz.ntmps47
    go_wp2_with fail
    refine (H.out _ ?_).mono ?_
    · unfold zig
      rw [if_neg (by omega)]
      first | omega | (rw [IntKind.wrap_u64]; omega)
    rintro x w1 ⟨rfl, ho⟩
    have HO := Hid.mk' ho
    clear ho
    go_wp2
    exact bodyPost_ret (results_none Tryz.results47 _ _ _) rfl ⟨rfl, HO.out⟩
set_option maxRecDepth 100000 in
set_option maxHeartbeats 1000000 in
theorem xfail_any (c : Int) (w : World) (hw : WS w 31 p g M e) :
    Calls Tryz.prog 53 #[.pointer (some ⟨p, 0, none⟩), .int .i64 c] w fun x w' => x = .returned (.tuple #[]) ∧ Wr w w' 31 p g M (if e = 0 then c else e) := by
  obtain ⟨v, hq, own, hg⟩ := hw.ex
  have c1 := (cell_of_row w p 1 _ _ _ hq).trans (show (#[v, .int .i64 e] : Array Value)[1]? = some (.int .i64 e) from rfl)
  have f1 := frozen_of_row w p 1 _ _ hq
  by_cases he : e = 0
  · subst he
    rw [if_pos rfl]
    have HW : Hid (Wr w (w.setCell ⟨p, 1, none⟩ (.int .i64 c)) 31 p g M c) := by
      refine ⟨g, ⟨⟨v, by rw [heap_setCell_same w p 1 _ 31 _ hq]; rfl, own_setCell own (by rw [hg]; exact hw.ne), hg⟩, hw.ne⟩, ⟨rfl, rfl, rfl, by simp [World.setCell], fun k hk hp hn => Below.heap_setCell _ _ _ _ hp⟩, .inl rfl⟩
    clear hw own hg hq
    go_enter Tryz.func53, Tryz.ntmps53
    go_wp2
    go_end0
    exact ⟨rfl, HW.out⟩
  · rw [if_neg he]
    have HW := Hid.mk' hw.wr
    clear hw own hg hq
    go_enter Tryz.func53, Tryz.ntmps53
    go_wp2
    go_end0
    exact ⟨rfl, HW.out⟩
end Go.Proofs.YtgiblfhajiakgaaGreatDoor.K

namespace Go.Proofs.YtgiblfhajiakgaaGreatDoor.K
open Go.RowKit
set_option linter.unusedVariables false
set_option linter.unusedSimpArgs false

variable {p : Nat} {g : Option Nat} {M : List UInt8} {e : Int}
set_option maxRecDepth 100000 in
set_option maxHeartbeats 1000000 in
theorem xraw_any (B : List UInt8) (b off len cap : Nat) (w : World) (hw : WS w 31 p g M e) (hlen : B.length = len) (hb : Byt w (some ⟨b, off, none⟩) B) (hp : b ≠ p ∧ some b ≠ g) (hlt : b < w.heap.size) (hsum : M.length + 64 + B.length ≤ 140737488355328) :
    Calls Tryz.prog 50 #[.pointer (some ⟨p, 0, none⟩), .slice (some ⟨b, off, none⟩) len cap] w fun x w' => x = .returned (.tuple #[]) ∧ Wr w w' 31 p g (wA M e (vint len ++ B)) e := by
  have h10 := vint_10 len (by omega)
  have H1 := Hid.mk' (xuint_any len (by omega) w hw (by omega))
  have HP : Hid (∀ wx (P : List UInt8) (k : UInt8) (kv : Int), P.length ≤ 10 + len → kv = (k.toNat : Int) → Wr w wx 31 p g (wA M e P) e → Calls Tryz.prog 56 #[.pointer (some ⟨p, 0, none⟩), .int .u8 kv] wx fun x w' => x = .returned (.tuple #[]) ∧ Wr w w' 31 p g (wA M e (P ++ [k])) e) := fun wx P k kv hP hk hx => by
    obtain ⟨g1, ws, fr, nw⟩ := hx
    refine (put_any k kv hk wx ws (by have := wA_len M e P; omega)).mono fun x w' h => ?_
    rw [wA_wA] at h
    exact And.intro h.1 (Wr.step fr nw h.2)
  have HB : Hid (∀ wx (P : List UInt8), Wr w wx 31 p g (wA M e P) e → ∀ j, j < len → wx.cell? ⟨b, off + j, none⟩ = some (.int .u8 ((B.getD j 0).toNat : Int))) := fun wx P hx j hj => by
    obtain ⟨g1, ws, fr, nw⟩ := hx
    rcases fr.byt (fun ad e => by cases e; exact hp) hb with e | ⟨b', off', e, hc⟩
    · rw [e] at hlen; simp at hlen; omega
    · cases e
      exact hc j (by omega)
  have hl2 : (len : Int) < 18446744073709551616 := by omega
  have hlb : len ≤ 140737488355328 := by omega
  clear hw hb hp hlt hsum
  go_enter Tryz.func50, Tryz.ntmps50
  go_wp2_with fail
  refine H1.out.mono ?_
  rintro x w1 ⟨rfl, a1⟩
  have A1 := Hid.mk' a1
  clear a1
  go_wp2
  go_loopw [4] (fun i wr => ∃ j : Nat, i = .int .i64 (j : Int) ∧ j ≤ len ∧ Hid (Wr w wr 31 p g (wA M e (vint len ++ B.take j)) e)) (fun i _ => len - (intOf i).toNat)
  case atStart => exact ⟨0, rfl, by omega, by show Wr _ _ _ _ _ _ _; rw [List.take_zero, List.append_nil]; exact A1.out⟩
  case round =>
    clear A1 H1
    obtain ⟨j, rfl, hj, HW⟩ := hrel
    by_cases hjl : j < len
    · have hjl' : (j : Int) < (len : Int) := by omega
      have cc := HB.out _ _ HW.out j hjl
      have H := Hid.mk' (HP.out wr _ (B.getD j 0) _ (by rw [List.length_append, List.length_take]; omega) rfl HW.out)
      rw [List.append_assoc, show B.take j ++ [B.getD j 0] = B.take (j + 1) by rw [List.take_succ_eq_append_getElem (by omega)]; simp [List.getElem?_eq_getElem (show j < B.length by omega)]] at H
      generalize B.getD j 0 = bn at *
      clear HW
      go_wp2_with fail
      refine H.out.mono ?_
      rintro x w2 ⟨rfl, a2⟩
      have A2 := Hid.mk' a2
      clear a2
      go_wp2
      exact ⟨⟨j + 1, by go_num, by omega, A2⟩, by simp [intOf]; omega⟩
    · have hjl' : ¬ (j : Int) < (len : Int) := by omega
      obtain rfl : j = len := by omega
      have HW2 : Hid (Wr w wr 31 p g (wA M e (vint j ++ B)) e) := by
        have := HW.out
        rw [List.take_of_length_le (by omega)] at this
        exact this
      clear HW
      go_wp2
      go_end0
      exact ⟨rfl, HW2.out⟩
set_option maxRecDepth 100000 in
set_option maxHeartbeats 1000000 in
theorem xraw_nil (a : Option Addr) (cap : Nat) (w : World) (hw : WS w 31 p g M e) (hsum : M.length + 64 ≤ 140737488355328) :
    Calls Tryz.prog 50 #[.pointer (some ⟨p, 0, none⟩), .slice a 0 cap] w fun x w' => x = .returned (.tuple #[]) ∧ Wr w w' 31 p g (wA M e (vint 0)) e := by
  have H1 := Hid.mk' (xuint_any 0 (by omega) w hw (by omega))
  clear hw hsum
  go_enter Tryz.func50, Tryz.ntmps50
  go_wp2_with fail
  refine H1.out.mono ?_
  rintro x w1 ⟨rfl, a1⟩
  have A1 := Hid.mk' a1
  clear a1
  go_wp2
  go_loopw [4] (fun i wr => i = .int .i64 0 ∧ wr = w1) (fun i _ => 0)
  case atStart => exact ⟨rfl, rfl⟩
  case round =>
    clear H1
    obtain ⟨rfl, rfl⟩ := hrel
    go_wp2
    go_end0
    exact ⟨rfl, A1.out⟩
theorem xraw_all (B : List UInt8) (a : Option Addr) (len cap : Nat) (w : World) (hw : WS w 31 p g M e) (hlen : B.length = len) (hb : Byt w a B) (hp : ∀ ad, a = some ad → ad.block ≠ p ∧ some ad.block ≠ g) (hlt : ∀ ad, a = some ad → ad.block < w.heap.size) (hsum : M.length + 64 + B.length ≤ 140737488355328) :
    Calls Tryz.prog 50 #[.pointer (some ⟨p, 0, none⟩), .slice a len cap] w fun x w' => x = .returned (.tuple #[]) ∧ Wr w w' 31 p g (wA M e (vint len ++ B)) e := by
  rcases hb with rfl | ⟨b, off, rfl, hc⟩
  · obtain rfl : len = 0 := hlen.symm
    rw [List.append_nil]
    exact xraw_nil a cap w hw (by omega)
  · exact xraw_any B b off len cap w hw hlen (.inr ⟨b, off, rfl, hc⟩) (hp _ rfl) (hlt _ rfl) hsum
end Go.Proofs.YtgiblfhajiakgaaGreatDoor.K

namespace Go.Proofs.YtgiblfhajiakgaaGreatDoor.K
open Go.RowKit
set_option linter.unusedVariables false
set_option linter.unusedSimpArgs false

theorem fsub_fin (f : Nat) (h : ffin f) : FloatKind.f64.format.sub f f = some 0 := by
  show Ieee.double.sub f f = some 0
  unfold Ieee.Format.sub
  rw [fread f h]
  generalize (f / 2 ^ 63 % 2 == 1) = sg
  generalize fmag (f % 2 ^ 63) = m
  generalize (Ieee.double.leastPlace + (fplace (f % 2 ^ 63) : Nat)) = e
  simp only [Ieee.Datum.opposite, Ieee.Datum.sum, Int.min_self, Int.sub_self]
  have ht : Ieee.signed sg m (0 : Int).toNat + Ieee.signed (!sg) m (0 : Int).toNat = 0 := by
    cases sg <;> simp [Ieee.signed] <;> omega
  rw [ht]
  have hs : (if (0 : Int) = 0 then (sg && !sg) else decide ((0 : Int) < 0)) = false := by cases sg <;> rfl
  rw [hs]
  simp only [Option.map_some, Int.natAbs_zero, Ieee.Format.write, Option.some.injEq]
  unfold Ieee.Format.nearest
  rw [if_pos rfl]
  rfl
theorem fsub_not (f : Nat) (h : ¬ ffin f) : FloatKind.f64.format.sub f f = none := by
  show Ieee.double.sub f f = none
  have e1 : Ieee.double.signWeight = 2 ^ 63 := rfl
  have e2 : Ieee.double.binade = 2 ^ 52 := rfl
  have e3 : Ieee.double.infRung = 2047 * 2 ^ 52 := rfl
  unfold ffin at h
  unfold Ieee.Format.sub Ieee.Format.read
  rw [e1, e2, e3]
  by_cases hi : f % 2 ^ 63 = 2047 * 2 ^ 52
  · simp only [if_neg (show ¬ f % 2 ^ 63 < 2 ^ 52 by omega), if_neg (show ¬ f % 2 ^ 63 < 2047 * 2 ^ 52 by omega), if_pos hi]
    generalize (f / 2 ^ 63 % 2 == 1) = sg
    cases sg <;> rfl
  · simp only [if_neg (show ¬ f % 2 ^ 63 < 2 ^ 52 by omega), if_neg (show ¬ f % 2 ^ 63 < 2047 * 2 ^ 52 by omega), if_neg hi]
    rfl
/-- The NaN that a difference without an answer gives. -/
def nanOf (f : Nat) (w : World) : Nat := (Question.nanBits .f64 f f).cut (w.tape w.drawn (.nanBits .f64 f f))
theorem sub_nan (f : Nat) (h : FloatKind.f64.format.sub f f = none) (w : World) : (binOp .sub 34 (.float .f64 f) (.float .f64 f)).run Tryz.prog w = .ok (.float .f64 (nanOf f w)) w.drew := by
  simp [binOp, Op.floatArith, h, Question.forced]
  rfl
theorem ford_nan0 (x : Nat) (h : 9218868437227405312 < x % 9223372036854775808) : (FloatKind.f64.format.order x 0 == some .eq) = false := by
  have e : Ieee.double.order x 0 = none := by
    have e1 : Ieee.double.signWeight = 2 ^ 63 := rfl
    have e2 : Ieee.double.binade = 2 ^ 52 := rfl
    have e3 : Ieee.double.infRung = 2047 * 2 ^ 52 := rfl
    unfold Ieee.Format.order Ieee.Format.read
    rw [e1, e2, e3]
    simp only [if_neg (show ¬ x % 2 ^ 63 < 2 ^ 52 by omega), if_neg (show ¬ x % 2 ^ 63 < 2047 * 2 ^ 52 by omega), if_neg (show ¬ x % 2 ^ 63 = 2047 * 2 ^ 52 by omega)]
    rfl
  show (Ieee.double.order x 0 == some .eq) = false
  rw [e]
  rfl
theorem nanOf_hi (f : Nat) (w : World) : 9218868437227405312 < nanOf f w % 9223372036854775808 := by
  unfold nanOf Question.cut
  simp only
  generalize w.tape w.drawn (.nanBits .f64 f f) = t
  have h1 : t % 2 < 2 := Nat.mod_lt _ (by decide)
  have h2 : t / 2 % (2 ^ 52 - 1) < 2 ^ 52 - 1 := Nat.mod_lt _ (by decide)
  generalize t % 2 = p at *
  generalize t / 2 % (2 ^ 52 - 1) = q at *
  obtain rfl | rfl : p = 0 ∨ p = 1 := by omega
  · omega
  · omega
set_option maxRecDepth 100000 in
set_option maxHeartbeats 400000 in
theorem qfin_any (f : Nat) (w : World) :
    Calls Tryz.prog 118 #[.float .f64 f] w fun e w' => e = .returned (.bool (finN f)) ∧ ∃ m, w' = w.drewN m := by
  by_cases h : ffin f
  · have e1 : finN f = true := by unfold finN; unfold ffin at h; rw [decide_eq_true (by omega)]
    rw [e1]
    have hs := fun wx => run_float_arith (P := Tryz.prog) wx .sub 34 .f64 f f 0 (fsub_fin f h)
    have z : (FloatKind.f64.format.order 0 0 == some .eq) = true := by decide +kernel
    clear h e1
    go_enter Tryz.func118, Tryz.ntmps118
    go_wp2
    go_ret
    exact ⟨rfl, 0, rfl⟩
  · have e1 : finN f = false := by unfold finN; unfold ffin at h; rw [decide_eq_false (by omega)]
    rw [e1]
    have hs := sub_nan f (fsub_not f h) w
    have z := ford_nan0 (nanOf f w) (nanOf_hi f w)
    generalize nanOf f w = N at *
    clear h e1
    go_enter Tryz.func118, Tryz.ntmps118
    go_wp2
    go_ret
    exact ⟨rfl, 1, rfl⟩

end Go.Proofs.YtgiblfhajiakgaaGreatDoor.K

namespace Go.Proofs.YtgiblfhajiakgaaGreatDoor.K
open Go.RowKit
set_option linter.unusedVariables false
set_option linter.unusedSimpArgs false

variable {p : Nat} {g : Option Nat} {M : List UInt8} {e : Int}
/-- The error behind one more. -/
def fE (e c : Int) : Int := if e = 0 then c else e
theorem xfix_wr (w : World) (hsum : M.length + 64 ≤ 140737488355328) (n : Nat) (hn : n < 4294967296) (v : Int) (hv : v = (n : Int)) (P : List UInt8) (hP : P.length ≤ 50) (wx : World) (hx : Wr w wx 31 p g (wA M e P) e) : Calls Tryz.prog 45 #[.pointer (some ⟨p, 0, none⟩), .int .u32 v] wx fun x w' => x = .returned (.tuple #[]) ∧ Wr w w' 31 p g (wA M e (P ++ b4 n)) e := by
  subst hv
  obtain ⟨g1, ws, fr, nw⟩ := hx
  refine (xfix_any n hn wx ws (by have := wA_len M e P; omega)).mono fun x w' h => ?_
  rw [wA_wA] at h
  exact ⟨h.1, Wr.step fr nw h.2⟩
set_option maxRecDepth 100000 in
set_option maxHeartbeats 1000000 in
theorem xfloat_any (f : Nat) (hf : f < 18446744073709551616) (hfin : finB f = true) (w : World) (hw : WS w 31 p g M e) (hsum : M.length + 64 ≤ 140737488355328) :
    Calls Tryz.prog 48 #[.pointer (some ⟨p, 0, none⟩), .float .f64 f] w fun x w' => x = .returned (.tuple #[]) ∧ Wr w w' 31 p g (wA M e (b8 f)) e := by
  have HFX := Hid.mk' (fun (n : Nat) (hn : n < 4294967296) (v : Int) (hv : v = (n : Int)) (P : List UInt8) (hP : P.length ≤ 50) (wx : World) hx => xfix_wr (p := p) (g := g) (M := M) (e := e) w hsum n hn v hv P hP wx hx)
  have h0 : Hid (∀ m, Wr w (w.drewN m) 31 p g (wA M e []) e) := fun m => by rw [wA_nil]; exact hw.wr.post (below_drewN (Below.refl _ _) m)
  have h1 : finN f = true := by unfold finB at hfin; simp at hfin; exact hfin.1
  have h2 : f ≠ 9223372036854775808 := by unfold finB at hfin; simp at hfin; exact hfin.2
  have HF := Hid.mk' (fun (wx : World) => qfin_any f wx)
  rw [h1] at HF
  have hff : ffin f := by unfold finN at h1; unfold ffin; simp at h1; omega
  clear hw hsum hfin h1
  by_cases hz : f = 0
  · subst hz
    have z : (FloatKind.f64.format.order 0 0 == some .eq) = true := by decide +kernel
    go_enter Tryz.func48, Tryz.ntmps48
    go_wp2_with fail
    refine (HF.out _).mono ?_
    rintro x w1 ⟨rfl, m, rfl⟩
    go_wp2_with fail
    refine (HFX.out 0 (by decide) _ (by first | rfl | omega) [] (by decide) _ (h0.out m)).mono ?_
    rintro x w2 ⟨rfl, a2⟩
    have A2 := Hid.mk' a2
    clear a2
    go_wp2_with fail
    refine (HFX.out 0 (by decide) _ (by first | rfl | omega) _ (by simp [b4]) _ A2.out).mono ?_
    rintro x w3 ⟨rfl, a3⟩
    have A3 := Hid.mk' a3
    clear a3
    go_wp2
    exact bodyPost_ret (results_none Tryz.results48 _ _ _) rfl ⟨rfl, A3.out⟩
  · have z : (FloatKind.f64.format.order f 0 == some .eq) = false := by
      have : (FloatKind.f64.format.order f 0 != some .eq) = true := ford_zero f hff (by omega)
      simpa [bne] using this
    go_enter Tryz.func48, Tryz.ntmps48
    go_wp2_with fail
    refine (HF.out _).mono ?_
    rintro x w1 ⟨rfl, m, rfl⟩
    go_wp2_with fail
    refine (HFX.out (f / 4294967296) (by omega) _ (by first | rfl | omega | (simp only [IntKind.wrap_u32]; omega)) [] (by decide) _ (h0.out m)).mono ?_
    rintro x w2 ⟨rfl, a2⟩
    have A2 := Hid.mk' a2
    clear a2
    go_wp2_with fail
    refine (HFX.out (f % 4294967296) (by omega) _ (by first | rfl | omega | (simp only [IntKind.wrap_u32]; omega)) _ (by simp [b4]) _ A2.out).mono ?_
    rintro x w3 ⟨rfl, a3⟩
    have A3 := Hid.mk' a3
    clear a3
    go_wp2
    go_end0
    exact ⟨rfl, A3.out⟩
set_option maxRecDepth 100000 in
set_option maxHeartbeats 1000000 in
theorem xfloat_neg (w : World) (hw : WS w 31 p g M e) (hsum : M.length + 64 ≤ 140737488355328) :
    Calls Tryz.prog 48 #[.pointer (some ⟨p, 0, none⟩), .float .f64 9223372036854775808] w fun x w' => x = .returned (.tuple #[]) ∧ Wr w w' 31 p g (wA M e (b8 0)) e := by
  have HFX := Hid.mk' (fun (n : Nat) (hn : n < 4294967296) (v : Int) (hv : v = (n : Int)) (P : List UInt8) (hP : P.length ≤ 50) (wx : World) hx => xfix_wr (p := p) (g := g) (M := M) (e := e) w hsum n hn v hv P hP wx hx)
  have h0 : Hid (∀ m, Wr w (w.drewN m) 31 p g (wA M e []) e) := fun m => by rw [wA_nil]; exact hw.wr.post (below_drewN (Below.refl _ _) m)
  have h1 : finN 9223372036854775808 = true := by decide +kernel
  have HF := Hid.mk' (fun (wx : World) => qfin_any 9223372036854775808 wx)
  rw [h1] at HF
  clear hw hsum h1
  have z : (FloatKind.f64.format.order 9223372036854775808 0 == some .eq) = true := by decide +kernel
  go_enter Tryz.func48, Tryz.ntmps48
  go_wp2_with fail
  refine (HF.out _).mono ?_
  rintro x w1 ⟨rfl, m, rfl⟩
  go_wp2_with fail
  refine (HFX.out 0 (by decide) _ (by first | rfl | omega) [] (by decide) _ (h0.out m)).mono ?_
  rintro x w2 ⟨rfl, a2⟩
  have A2 := Hid.mk' a2
  clear a2
  go_wp2_with fail
  refine (HFX.out 0 (by decide) _ (by first | rfl | omega) _ (by simp [b4]) _ A2.out).mono ?_
  rintro x w3 ⟨rfl, a3⟩
  have A3 := Hid.mk' a3
  clear a3
  go_wp2
  exact bodyPost_ret (results_none Tryz.results48 _ _ _) rfl ⟨rfl, A3.out⟩
set_option maxRecDepth 100000 in
set_option maxHeartbeats 1000000 in
theorem xfloat_bad (f : Nat) (h1 : finN f = false) (w : World) (hw : WS w 31 p g M e) :
    Calls Tryz.prog 48 #[.pointer (some ⟨p, 0, none⟩), .float .f64 f] w fun x w' => x = .returned (.tuple #[]) ∧ Wr w w' 31 p g M (fE e 21) := by
  have HX : Hid (∀ m, Calls Tryz.prog 53 #[.pointer (some ⟨p, 0, none⟩), .int .i64 21] (w.drewN m) fun x w' => x = .returned (.tuple #[]) ∧ Wr w w' 31 p g M (fE e 21)) := fun m => by
    have b := below_drewN (Below.refl w.heap.size w) m
    exact (xfail_any 21 (w.drewN m) (hw.below b)).mono fun x w' h => And.intro h.1 (Wr.pre b h.2)
  have HF := Hid.mk' (fun (wx : World) => qfin_any f wx)
  rw [h1] at HF
  clear hw h1
  go_enter Tryz.func48, Tryz.ntmps48
  go_wp2_with fail
  refine (HF.out _).mono ?_
  rintro x w1 ⟨rfl, m, rfl⟩
  go_wp2_with fail
  refine (HX.out m).mono ?_
  rintro x w2 ⟨rfl, a2⟩
  have A2 := Hid.mk' a2
  clear a2
  go_wp2
  exact bodyPost_ret (results_none Tryz.results48 _ _ _) rfl ⟨rfl, A2.out⟩
set_option maxRecDepth 100000 in
set_option maxHeartbeats 1000000 in
theorem wfloat_bad (f : Nat) (hf : f < 18446744073709551616) (h1 : finN f = false) (w : World) (hw : WS w 28 p g M e) :
    Calls Tryz.prog 29 #[.pointer (some ⟨p, 0, none⟩), .float .f64 f] w fun x w' => x = .returned (.tuple #[]) ∧ Wr w w' 28 p g M (fE e 21) := by
  have HX : Hid (Calls Tryz.prog 43 #[.pointer (some ⟨p, 0, none⟩), .int .i64 21] w fun x w' => x = .returned (.tuple #[]) ∧ Wr w w' 28 p g M (fE e 21)) := wfail_any 21 w hw
  have HF := Hid.mk' (fun (wx : World) => fin_any f wx hf)
  rw [h1] at HF
  clear hw h1
  go_enter Tryz.func29, Tryz.ntmps29
  go_wp2_with fail
  refine (HF.out _).mono ?_
  rintro x w1 ⟨rfl, hw1⟩
  subst hw1
  go_wp2_with fail
  refine HX.out.mono ?_
  rintro x w2 ⟨rfl, a2⟩
  have A2 := Hid.mk' a2
  clear a2
  go_wp2
  first | (go_end0; exact ⟨rfl, A2.out⟩) | exact bodyPost_ret (results_none Tryz.results29 _ _ _) rfl ⟨rfl, A2.out⟩
end Go.Proofs.YtgiblfhajiakgaaGreatDoor.K

namespace Go.Proofs.YtgiblfhajiakgaaGreatDoor.K
open Go.RowKit
set_option linter.unusedVariables false
set_option linter.unusedSimpArgs false

variable {p : Nat} {g : Option Nat} {M : List UInt8} {e : Int}
set_option maxRecDepth 100000 in
set_option maxHeartbeats 1000000 in
/-- The reference's Writer.Hash. -/
theorem xhash_any (h : List UInt8) (hl : h.length = 32) (w : World) (hw : WS w 31 p g M e) (hsum : M.length + 32 ≤ 140737488355328) :
    Calls Tryz.prog 51 #[.pointer (some ⟨p, 0, none⟩), .agg (bs h)] w fun x w' => x = .returned (.tuple #[]) ∧ Wr w w' 31 p g (wA M e h) e := by
  obtain ⟨W0, hW0⟩ : ∃ W0, W0 = w.alloc (.cells (bs h) 36) := ⟨_, rfl⟩
  have be0 : Below w.heap.size w W0 := by rw [hW0]; exact (Below.refl _ _).alloc (Nat.le_refl _) _
  have g0 : W0.heap[w.heap.size]? = some (.cells (bs h) 36 (0, 0)) := by rw [hW0]; exact heap_alloc_new _ _
  have s0 : W0.heap.size = w.heap.size + 1 := by rw [hW0]; simp
  have hp := hw.lt
  have hg : some w.heap.size ≠ g := fun e => by have := hw.glt e.symm; omega
  have HW0 : Hid (Wr W0 W0 31 p g (wA M e (h.take 0)) e) := by
    show Wr _ _ _ _ _ _ _
    rw [List.take_zero, wA_nil]
    exact (hw.below be0).wr
  have BE := Hid.mk' be0
  have HX : Hid (∀ (k : Nat) (wx : World), k < 32 → Wr W0 wx 31 p g (wA M e (h.take k)) e → wx.cell? ⟨w.heap.size, k, none⟩ = some (.int .u8 ((h.getD k 0).toNat : Int)) ∧
      Calls Tryz.prog 56 #[.pointer (some ⟨p, 0, none⟩), .int .u8 ((h.getD k 0).toNat : Int)] wx fun x w' => x = .returned (.tuple #[]) ∧ Wr W0 w' 31 p g (wA M e (h.take (k + 1))) e) := fun k wx hk hx => by
    obtain ⟨g1, ws, fr, nw⟩ := hx
    have hb : wx.heap[w.heap.size]? = some (.cells (bs h) 36 (0, 0)) := (fr.block w.heap.size (by omega) (by omega) hg).trans g0
    refine ⟨(cell_of_row wx w.heap.size k _ _ _ hb).trans (bs_get h k (by omega)), ?_⟩
    refine (put_any (h.getD k 0) _ rfl wx ws (by have := wA_len M e (h.take k); have : (h.take k).length ≤ k := by simp; omega
                                                 omega)).mono fun x w' h2 => ?_
    rw [wA_wA, show h.take k ++ [h.getD k 0] = h.take (k + 1) by rw [List.take_succ_eq_append_getElem (by omega)]; simp [List.getElem?_eq_getElem (show k < h.length by omega)]] at h2
    exact ⟨h2.1, Wr.step fr nw h2.2⟩
  have HH : Hid (h.take 32 = h) := List.take_of_length_le (by omega)
  clear hw hsum be0 g0 hg
  go_enter Tryz.func51, Tryz.ntmps51
  go_wp2
  rw [← hW0]
  clear hW0
  go_loopw [4] (fun i wr => ∃ k : Nat, k ≤ 32 ∧ i = .int .i64 k ∧ Hid (Wr W0 wr 31 p g (wA M e (h.take k)) e)) (fun i _ => 32 - (intOf i).toNat)
  case atStart => exact ⟨0, by omega, rfl, HW0⟩
  case round =>
    obtain ⟨k, hk, rfl, HW⟩ := hrel
    clear HW0
    by_cases hlt : k < 32
    · obtain ⟨cc, hc⟩ := HX.out k wr hlt HW.out
      have H := Hid.mk' hc
      have hlt' : (k : Int) < 32 := by omega
      generalize h.getD k 0 = bn at *
      clear HW hc
      go_wp2_with fail
      refine H.out.mono ?_
      rintro x w2 ⟨rfl, a2⟩
      have A2 := Hid.mk' a2
      clear a2
      go_wp2
      exact ⟨⟨k + 1, by omega, by go_num, A2⟩, by simp [intOf]; omega⟩
    · obtain rfl : k = 32 := by omega
      have HE : Hid (Wr w wr 31 p g (wA M e h) e) := by
        have := HW.out
        rw [HH.out] at this
        exact Wr.pre BE.out this
      clear HW HX HH
      go_wp2
      go_end0
      exact ⟨rfl, HE.out⟩
end Go.Proofs.YtgiblfhajiakgaaGreatDoor.K

namespace Go.Proofs.YtgiblfhajiakgaaGreatDoor.K
open Go.RowKit
set_option linter.unusedVariables false
set_option linter.unusedSimpArgs false

/-- A valid text is good to its end, and the other way round. -/
theorem valid_good : ∀ (f : Nat) (l : List UInt8), l.length ≤ f → Lib.validD l = true → goodF f l = l.length
  | 0, l, hf, _ => by simp only [goodF]; omega
  | f + 1, l, hf, hv => by
    by_cases h0 : l.length = 0
    · rw [goodF_end _ _ h0, h0]
    · have hne : l ≠ [] := fun e => h0 (by rw [e]; rfl)
      have hwd := wd_dec l
      rw [Lib.validD_step l hne] at hv
      split at hwd
      · rename_i hd
        rw [if_pos hd] at hv
        cases hv
      · rename_i hd
        rw [if_neg hd, ← hwd] at hv
        have hle := wdl_le l (by omega)
        have h1 := decL_pos l
        rw [goodF_on (f + 1) l (by omega) hf (by omega), Nat.add_sub_cancel, valid_good f (l.drop (wd l)) (by rw [List.length_drop]; omega) hv, List.length_drop]
        omega
theorem good_valid2 : ∀ (f : Nat) (l : List UInt8), l.length ≤ f → goodF f l = l.length → Lib.validD l = true
  | 0, l, hf, _ => by
    obtain rfl : l = [] := List.eq_nil_of_length_eq_zero (by omega)
    rfl
  | f + 1, l, hf, hg => by
    by_cases h0 : l.length = 0
    · obtain rfl : l = [] := List.eq_nil_of_length_eq_zero h0
      rfl
    · unfold goodF at hg
      rw [if_neg h0] at hg
      by_cases h1 : wd l = 0
      · rw [if_pos h1] at hg; omega
      · rw [if_neg h1] at hg
        have hwd := wd_dec l
        have hne : l ≠ [] := fun e => h0 (by rw [e]; rfl)
        rw [Lib.validD_step l hne]
        split at hwd
        · omega
        · rename_i hd
          rw [if_neg hd, ← hwd]
          have hle := wdl_le l (by omega)
          exact good_valid2 f (l.drop (wd l)) (by rw [List.length_drop]; omega) (by rw [List.length_drop]; omega)
theorem good_iff (s : ByteArray) : Lib.validD s.data.toList = decide (good s.data.toList = s.size) := by
  have hl : s.data.toList.length = s.size := by simp
  by_cases h : Lib.validD s.data.toList = true
  · rw [h, eq_comm]
    have := valid_good _ _ (Nat.le_refl _) h
    rw [hl] at this
    exact decide_eq_true (by unfold good; rw [hl]; exact this)
  · have h2 : Lib.validD s.data.toList = false := by simpa using h
    rw [h2, eq_comm]
    exact decide_eq_false fun e => h (good_valid2 s.data.toList.length _ (Nat.le_refl _) (by rw [hl]; unfold good at e; rw [hl] at e; exact e))
theorem good_le (s : ByteArray) : good s.data.toList ≤ s.size := by
  have := goodF_le s.data.toList.length s.data.toList
  have hl : s.data.toList.length = s.size := by simp
  unfold good
  omega
variable {p : Nat} {g : Option Nat} {M : List UInt8} {e : Int}
theorem conv_sep2 (s : ByteArray) {T : TypeId} (w : World) (hw : WS w T p g M e) : ∃ cap C fr, (convert 9 25 (.string s)).run Tryz.prog w = .ok (.slice (some ⟨w.heap.size, 0, none⟩) s.size cap) (w.drew.alloc (.cells C 5 fr)) ∧ Byt (w.drew.alloc (.cells C 5 fr)) (some ⟨w.heap.size, 0, none⟩) s.data.toList ∧ WS (w.drew.alloc (.cells C 5 fr)) T p g M e ∧ Below w.heap.size w (w.drew.alloc (.cells C 5 fr)) ∧ w.heap.size ≠ p ∧ some w.heap.size ≠ g ∧ w.heap.size < (w.drew.alloc (.cells C 5 fr)).heap.size := by
  obtain ⟨cap, C, fr, h1, h2⟩ := conv_str s w
  have hb : Below w.heap.size w (w.drew.alloc (.cells C 5 fr)) := (below_drewN (Below.refl w.heap.size w) 1).alloc (by show w.heap.size ≤ w.heap.size; omega) _
  have hl : s.data.toList.length = s.size := by simp
  refine ⟨cap, C, fr, h1, .inr ⟨w.heap.size, 0, rfl, fun j hj => ?_⟩, hw.below hb, hb, by have := hw.lt; omega, fun h => by have := hw.glt h.symm; omega, by show w.heap.size < (w.heap.push _).size; simp⟩
  have hg : (w.drew.alloc (.cells C 5 fr)).heap[w.heap.size]? = some (.cells C 5 fr) := by
    show (w.heap.push (.cells C 5 fr))[w.heap.size]? = _
    simp
  rw [Nat.zero_add, cell_of_row _ w.heap.size j C 5 fr hg]
  exact h2 j (by omega)
set_option maxRecDepth 100000 in
set_option maxHeartbeats 1000000 in
theorem xtext_any (s : ByteArray) (hs : s.size ≤ 140737488351232) (hgd : good s.data.toList = s.size) (w : World) (hw : WS w 31 p g M e) (hsum : M.length + 64 + s.size ≤ 140737488355328) :
    Calls Tryz.prog 49 #[.pointer (some ⟨p, 0, none⟩), .string s] w fun x w' => x = .returned (.tuple #[]) ∧ Wr w w' 31 p g (wA M e (vint s.size ++ s.data.toList)) e := by
  have HV := Hid.mk' (wrong_any s w (by omega))
  have hl : s.data.toList.length = s.size := by simp
  rw [hgd] at HV
  have hlt : ¬ (s.size : Int) < (s.size : Int) := by omega
  obtain ⟨cap, C, fr, hcv, hby, ws, hbl, n1, n2, n3⟩ := conv_sep2 s w hw
  have H := Hid.mk' ((xraw_any s.data.toList w.heap.size 0 s.size cap _ ws hl hby ⟨n1, n2⟩ n3 (by rw [hl]; exact hsum)).mono fun x w' h => And.intro h.1 (Wr.pre hbl h.2))
  clear hby ws hbl n1 n2 n3 hw hl hgd
  go_enter Tryz.func49, Tryz.ntmps49
  go_wp2_with fail
  refine HV.out.mono ?_
  rintro x w1 ⟨rfl, hw1⟩
  subst hw1
  go_wp2_with fail
  refine H.out.mono ?_
  rintro x w2 ⟨rfl, a2⟩
  have A2 := Hid.mk' a2
  clear a2 hcv
  go_wp2
  go_end0
  exact ⟨rfl, A2.out⟩
set_option maxRecDepth 100000 in
set_option maxHeartbeats 1000000 in
theorem xtext_bad (s : ByteArray) (hs : s.size ≤ 140737488351232) (hgd : good s.data.toList ≠ s.size) (w : World) (hw : WS w 31 p g M e) :
    Calls Tryz.prog 49 #[.pointer (some ⟨p, 0, none⟩), .string s] w fun x w' => x = .returned (.tuple #[]) ∧ Wr w w' 31 p g M (fE e 21) := by
  have HV := Hid.mk' (wrong_any s w (by omega))
  have hle := good_le s
  have hlt : (good s.data.toList : Int) < (s.size : Int) := by omega
  generalize good s.data.toList = G at *
  have H : Hid (Calls Tryz.prog 53 #[.pointer (some ⟨p, 0, none⟩), .int .i64 21] w fun x w' => x = .returned (.tuple #[]) ∧ Wr w w' 31 p g M (fE e 21)) := xfail_any 21 w hw
  clear hw
  go_enter Tryz.func49, Tryz.ntmps49
  go_wp2_with fail
  refine HV.out.mono ?_
  rintro x w1 ⟨rfl, hw1⟩
  subst hw1
  go_wp2_with fail
  refine H.out.mono ?_
  rintro x w2 ⟨rfl, a2⟩
  have A2 := Hid.mk' a2
  clear a2
  go_wp2
  first | (go_end0; exact ⟨rfl, A2.out⟩) | exact bodyPost_ret (results_none Tryz.results49 _ _ _) rfl ⟨rfl, A2.out⟩
end Go.Proofs.YtgiblfhajiakgaaGreatDoor.K

namespace Go.Proofs.YtgiblfhajiakgaaGreatDoor.K
open Go.RowKit
set_option linter.unusedVariables false
set_option linter.unusedSimpArgs false

theorem belowN (W : World) : Below W.heap.size W (W.alloc (.cells #[] 5)) := (Below.refl _ _).alloc (Nat.le_refl _) _
/-- What Done tells. -/
def dM (M : List UInt8) (e : Int) : List UInt8 := if e = 0 then M else []
variable {p : Nat} {g : Option Nat} {M : List UInt8} {e : Int}
theorem WS.see {w : World} {T : TypeId} (h : WS w T p g M e) : ∃ a cv, w.cell? ⟨p, 0, none⟩ = some (.slice a M.length cv) ∧ w.cell? ⟨p, 1, none⟩ = some (.int .i64 e) ∧ Byt w a M ∧ (a = none ∧ M = [] ∧ cv = 0 ∨ ∃ b, a = some ⟨b, 0, none⟩) := by
  obtain ⟨v, hq, own, hg⟩ := h.ex
  have c0 := (cell_of_row w p 0 _ _ _ hq).trans (show (#[v, .int .i64 e] : Array Value)[0]? = some v from rfl)
  have c1 := (cell_of_row w p 1 _ _ _ hq).trans (show (#[v, .int .i64 e] : Array Value)[1]? = some (.int .i64 e) from rfl)
  obtain ⟨a, cv, rfl, h1, h2, h3⟩ := own.open
  refine ⟨a, cv, c0, c1, h2, ?_⟩
  rcases own.2 with ⟨hv, hn⟩ | ⟨gg, cap, cur, hv, _⟩
  · simp only [Value.slice.injEq] at hv
    exact .inl ⟨hv.1, List.eq_nil_of_length_eq_zero hn, hv.2.2⟩
  · simp only [Value.slice.injEq] at hv
    exact .inr ⟨_, hv.1⟩
set_option maxRecDepth 100000 in
set_option maxHeartbeats 1000000 in
theorem wlen_own (w : World) (hw : WS w 28 p g M e) :
    Calls Tryz.prog 8 #[.pointer (some ⟨p, 0, none⟩)] w fun x w' => x = .returned (.int .i64 (M.length : Int)) ∧ w' = w := by
  obtain ⟨a, cv, c0, c1, hb, _⟩ := hw.see
  clear hw hb
  go_enter Tryz.func8, Tryz.ntmps8
  go_wp2
  go_ret
  exact ⟨rfl, rfl⟩
set_option maxRecDepth 100000 in
set_option maxHeartbeats 1000000 in
theorem xlen_own (w : World) (hw : WS w 31 p g M e) :
    Calls Tryz.prog 9 #[.pointer (some ⟨p, 0, none⟩)] w fun x w' => x = .returned (.int .i64 (M.length : Int)) ∧ w' = w := by
  obtain ⟨a, cv, c0, c1, hb, _⟩ := hw.see
  clear hw hb
  go_enter Tryz.func9, Tryz.ntmps9
  go_wp2
  go_ret
  exact ⟨rfl, rfl⟩
set_option maxRecDepth 100000 in
set_option maxHeartbeats 1000000 in
theorem clone_nil0 (w : World) : Calls Tryz.prog 54 #[.slice none 0 0] w fun x w' => x = .returned (.slice none 0 0) ∧ w' = w := by
  have hnil : ∀ W, (binOp .eql 25 (.slice none 0 0) (.slice none 0 0)).run Tryz.prog W = .ok (.bool true) W := fun W => Lib.run_eql_slice_nil_nil W 0 0 Tryz.underlying25
  go_enter Tryz.func54, Tryz.ntmps54
  go_wp2
  go_ret
  exact ⟨rfl, rfl⟩
set_option maxRecDepth 100000 in
set_option maxHeartbeats 1000000 in
theorem wdone_own (w : World) (hw : WS w 28 p g M e) (hl : M.length ≤ 140737488355328) :
    Calls Tryz.prog 11 #[.pointer (some ⟨p, 0, none⟩)] w fun x w' => ∃ v, x = .returned (.tuple #[v, .int .i64 e]) ∧ OwnB w' w.heap.size v (dM M e) ∧ Below w.heap.size w w' := by
  obtain ⟨a, cv, c0, c1, hb, ha⟩ := hw.see
  clear hw
  by_cases he : e = 0
  · subst he
    have eD : dM M 0 = M := by simp [dM]
    rw [eD]
    clear eD
    rcases ha with ⟨rfl, rfl, rfl⟩ | ⟨b, rfl⟩
    · have HC := Hid.mk' (clone_nil0 w)
      clear hb hl
      go_enter Tryz.func11, Tryz.ntmps11
      go_wp2_with fail
      refine HC.out.mono ?_
      rintro x w1 ⟨rfl, hw1⟩
      subst hw1
      go_wp2
      go_ret2
      exact ⟨_, rfl, ownB_nil _ _, Below.refl _ _⟩
    · have HC : Hid (Calls Tryz.prog 54 #[.slice (some ⟨b, 0, none⟩) M.length cv] w fun x w' => ∃ v, x = .returned v ∧ OwnB w' w.heap.size v M ∧ Below w.heap.size w w') := clone_any b 0 M.length cv M w rfl hl hb
      clear hb hl
      go_enter Tryz.func11, Tryz.ntmps11
      go_wp2_with fail
      refine HC.out.mono ?_
      rintro x w1 ⟨v, rfl, h2, h3⟩
      have H2 := Hid.mk' h2
      have H3 := Hid.mk' h3
      clear h2 h3
      go_wp2
      go_ret2
      exact ⟨_, rfl, H2.out, H3.out⟩
  · have eD : dM M e = [] := by simp [dM, he]
    rw [eD]
    clear hb ha eD
    go_enter Tryz.func11, Tryz.ntmps11
    go_wp2
    go_quiet (fail)
    go_wp2
    go_ret2
    exact ⟨_, rfl, ownB_nil _ _, below_drewN (Below.refl _ _) _⟩
set_option maxRecDepth 100000 in
set_option maxHeartbeats 1000000 in
theorem xdone_own (w : World) (hw : WS w 31 p g M e) (hl : M.length ≤ 140737488355328) :
    Calls Tryz.prog 10 #[.pointer (some ⟨p, 0, none⟩)] w fun x w' => ∃ v, x = .returned (.tuple #[v, .int .i64 e]) ∧ OwnB w' w.heap.size v (dM M e) ∧ Below w.heap.size w w' := by
  have hws0 := hw.below (belowN w)
  obtain ⟨a, cv, c0, c1, hb, ha⟩ := hw.see
  have d0 : (w.alloc (.cells #[] 5)).cell? ⟨p, 0, none⟩ = some (.slice a M.length cv) := ((belowN w).cell (p := ⟨p, 0, none⟩) hw.lt).trans c0
  clear hw hws0
  by_cases he : e = 0
  · subst he
    have eD : dM M 0 = M := by simp [dM]
    rw [eD]
    clear eD
    have O0 : Hid (OwnB (w.alloc (.cells #[] 5)) w.heap.size (.slice (some ⟨w.heap.size, 0, none⟩) 0 0) []) := ⟨rfl, .inr ⟨w.heap.size, 0, #[], rfl, Nat.le_refl _, heap_alloc_new _ _, by simp, by simp [maxLen], rfl, rfl⟩⟩
    have B0 := Hid.mk' (byt_below hb (belowN w))
    have S0 : Hid (([] : List UInt8).length + M.length ≤ 140737488355328) := by show _ ≤ _; simpa using hl
    have Z0 := Hid.mk' (belowN w)
    have Z1 : Hid (w.heap.size ≤ (w.alloc (.cells #[] 5)).heap.size) := Z0.out.size
    clear hb hl ha
    go_enter Tryz.func10, Tryz.ntmps10
    go_wp2_with (first | (at_builtin; refine wpList_app2 rfl (.tmp 15) (.tmp 19) rfl w.heap.size (.slice (some ⟨w.heap.size, 0, none⟩) 0 0) [] rfl O0.out a M.length cv M rfl rfl B0.out S0.out Z1.out ?_) | fail)
    intro v w1 own1 gr1 hblk
    have own1' : Hid (OwnB w1 w.heap.size v M) := by show OwnB _ _ _ _; simpa using own1
    have b1 : Hid (Below w.heap.size w w1) := Z0.out.grown gr1 Z0.out.size (fun k hk => by simp [Value.ownBlock] at hk; omega)
    clear own1 gr1 hblk O0 B0 S0 Z0 Z1
    go_wp2
    go_ret2
    exact ⟨_, rfl, own1'.out, b1.out⟩
  · have eD : dM M e = [] := by simp [dM, he]
    rw [eD]
    clear hb ha eD
    go_enter Tryz.func10, Tryz.ntmps10
    go_wp2
    go_quiet (fail)
    go_wp2
    go_ret2
    exact ⟨_, rfl, ownB_nil _ _, below_drewN (Below.refl _ _) _⟩
theorem ws_zero (w : World) (T : TypeId) : WS (w.alloc (.cells #[.slice none 0 0, .int .i64 0] T)) T w.heap.size none [] 0 := ⟨⟨_, heap_alloc_new _ _, ownB_nil _ _, rfl⟩, by simp⟩
end Go.Proofs.YtgiblfhajiakgaaGreatDoor.K

namespace Go.Proofs.YtgiblfhajiakgaaGreatDoor
open Go.RowKit
set_option linter.unusedVariables false
set_option linter.unusedSimpArgs false

set_option maxRecDepth 100000 in
set_option maxHeartbeats 2000000 in
/-- The reference's Writer.Hashes. -/
theorem xhashes_any {p : Nat} {g : Option Nat} {M : List UInt8} {ec : Int} (a : Option Addr) (L D : List (List UInt8)) (cap : Nat) (w : World) (hL : All32 L) (hb : L.length ≤ 4398046510976) (hl : Hl w a L) (hD : Srt L D) (hDl : D.length ≤ L.length) (hw0 : K.WS w 31 p g M ec) (hsum : M.length + 64 + 32 * L.length ≤ 140737488355328) :
    Calls Tryz.prog 52 #[.pointer (some ⟨p, 0, none⟩), .slice a L.length cap] w fun x w' => x = .returned (.tuple #[]) ∧ K.Wr w w' 31 p g (K.wA M ec (hw D)) ec := by
  have HR : Hid (Calls Tryz.prog 120 #[.slice a L.length cap] w fun e w' => ∃ v, e = .returned v ∧ OwnH w' w.heap.size v D ∧ Below w.heap.size w w') := (rising_any a L cap w hL hb hl).mono fun e w' ⟨v, D', h1, h2, h3, h4⟩ => by
    obtain rfl : D' = D := SRise.unique D' D h2.2.1 h2.1 hD.1 (fun x => (h2.2.2 x).trans (hD.2.2 x).symm)
    exact ⟨v, h1, h3, h4⟩
  have HD32 : Hid (All32 D) := hD.2.1
  obtain ⟨n, hn⟩ : ∃ n, n = L.length := ⟨_, rfl⟩
  obtain ⟨m, hm⟩ : ∃ m, m = D.length := ⟨_, rfl⟩
  rw [← hn] at hb hsum hDl ⊢
  rw [← hn] at HR
  rw [← hm] at hDl
  have HM : Hid (m = D.length) := hm
  have hlt := hw0.lt
  have HW : Hid (K.WS w 31 p g M ec) := hw0
  clear hw0 hl hL hD hn hm
  go_enter Tryz.func52, Tryz.ntmps52
  go_wp2_with fail
  refine HR.out.mono ?_
  rintro e w3 ⟨v, rfl, own1, be3⟩
  clear HR
  have WS3 : K.WS w3 31 p g M ec := HW.out.below be3
  have HU : Hid (Calls Tryz.prog 46 #[.pointer (some ⟨p, 0, none⟩), .int .u64 (m : Int)] w3 fun x w' => x = .returned (.tuple #[]) ∧ K.Wr w3 w' 31 p g (K.wA M ec (K.vint m)) ec) := K.xuint_any m (by omega) w3 WS3 (by omega)
  have BE := K.Hid.mk' be3
  rcases own1.open with ⟨h1, h0⟩ | ⟨q, c', h1, h6, hqB, hq3, hs3, ht3⟩
  · subst h1 h0
    obtain rfl : m = 0 := by have := HM.out; simpa using this
    clear own1 WS3
    go_wp2_with fail
    refine HU.out.mono ?_
    rintro e w4 ⟨rfl, wr4⟩
    have HE : Hid (K.Wr w w4 31 p g (K.wA M ec (hw [])) ec) := K.Wr.pre BE.out (by simpa [hw, cat] using wr4)
    clear wr4 HU
    go_wp2
    go_loopw [5] (fun i wr => i = .int .i64 0 ∧ wr = w4) (fun _ _ => 0)
    case atStart => exact ⟨rfl, rfl⟩
    case round =>
      obtain ⟨rfl, rfl⟩ := hrel
      go_wp2
      go_end0
      exact ⟨rfl, HE.out⟩
  · subst h1
    have hqg : some q ≠ g := WS.gone HW.out hqB
    have hqp : q ≠ p := by omega
    have HS3 : Hid (Hs w3 q 0 D) := hs3
    rw [← HM.out] at h6 ⊢
    clear own1 WS3 hs3 ht3
    go_wp2_with fail
    refine HU.out.mono ?_
    rintro e w4 ⟨rfl, wr4⟩
    have HS4 : Hid (Hs w4 q 0 D) := (by obtain ⟨g1, _, f, _⟩ := wr4; exact hs_frw HD32.out HS3.out f hq3 hqp hqg : Hs w4 q 0 D)
    have HW4 : Hid (K.Wr w3 w4 31 p g (K.wA M ec (K.vint m)) ec) := wr4
    have hlt4 : w3.heap.size ≤ w4.heap.size := by obtain ⟨g1, _, f, _⟩ := wr4; exact f.size
    clear wr4 HU HS3
    go_wp2
    go_loopw [5] (fun i wr => ∃ k : Nat, k ≤ m ∧ i = .int .i64 k ∧ Hid (K.Wr w3 wr 31 p g (K.wA M ec (K.vint m ++ cat (D.take k))) ec) ∧ Hid (Hs wr q 0 D)) (fun i _ => m - (intOf i).toNat)
    case atStart => exact ⟨0, by omega, rfl, (by have := HW4.out; simpa [cat] using this : K.Wr w3 w4 31 p g (K.wA M ec (K.vint m ++ cat (D.take 0))) ec), HS4.out⟩
    case round =>
      obtain ⟨k, hk, rfl, HWr, HSr⟩ := hrel
      by_cases hkm : k < m
      · have hkD : k < D.length := by rw [← HM.out]; exact hkm
        obtain ⟨x, hx⟩ : ∃ x, D[k]? = some x := ⟨_, List.getElem?_eq_getElem hkD⟩
        have hx32 := HD32.out.get hx
        have HR : Hid (wr.rangeAt q (32 * k) (hcs x)) := (by have := HSr.out k x hx; rwa [Nat.zero_add] at this : wr.rangeAt q (32 * k) (hcs x))
        have ix1 := fun wx => indexH q 0 m c' k wx hkm
        simp only [Nat.zero_add] at ix1
        have HC : Hid (Calls Tryz.prog 51 #[.pointer (some ⟨p, 0, none⟩), .agg (bs x)] wr fun e w' => e = .returned (.tuple #[]) ∧ K.Wr w3 w' 31 p g (K.wA M ec (K.vint m ++ cat (D.take (k + 1)))) ec ∧ Hs w' q 0 D) := (by
          obtain ⟨g1, ws1, f1, n1⟩ := HWr.out
          have hqr : q < wr.heap.size := by have := f1.size; omega
          have hqg1 := nw_apart n1 hq3 hqg
          have hlen : (K.wA M ec (K.vint m ++ cat (D.take k))).length ≤ 140737488355328 - 32 := by
            have h1 := cat_len (all32_take HD32.out k)
            have h2 := K.vint_10 m (by omega)
            have h3 : (D.take k).length ≤ k := by simp; omega
            have h4 := K.wA_len M ec (K.vint m ++ cat (D.take k))
            rw [List.length_append] at h4
            omega
          refine (K.xhash_any x hx32 _ ws1 (by omega)).mono ?_
          rintro e w' ⟨rfl, wr'⟩
          rw [K.wA_wA] at wr'
          refine ⟨rfl, ?_, ?_⟩
          · rw [cat_snoc D k x hx, ← List.append_assoc (K.vint m)]
            exact K.Wr.step f1 n1 wr'
          · obtain ⟨g2, _, f2, _⟩ := wr'
            exact hs_frw HD32.out HSr.out f2 hqr hqp hqg1)
        clear hx HWr HSr
        go_wp2_with (first
          | (refine wpList_load_mid rfl 36 _ rfl q (32 * k) rfl (hcs x) _ HR.out Tryz.underlying36 rfl (by rw [hcs_len, hx32]; exact hsH) ?_; rw [hcs_arr])
          | fail)
        refine HC.out.mono ?_
        rintro e w5 ⟨rfl, hw5, hs5⟩
        have H5 : Hid (K.Wr w3 w5 31 p g (K.wA M ec (K.vint m ++ cat (D.take (k + 1)))) ec) := hw5
        have G5 : Hid (Hs w5 q 0 D) := hs5
        clear hw5 hs5 HC HR
        go_wp2
        exact ⟨⟨k + 1, by omega, by go_num, H5, G5⟩, by simp [intOf]; omega⟩
      · obtain rfl : k = m := by omega
        have HE : Hid (K.Wr w wr 31 p g (K.wA M ec (hw D)) ec) := (by
          have h1 := HWr.out
          rw [HM.out, List.take_length] at h1
          exact K.Wr.pre BE.out h1)
        go_wp2
        go_end0
        exact ⟨rfl, HE.out⟩
end Go.Proofs.YtgiblfhajiakgaaGreatDoor

namespace Go.Proofs.YtgiblfhajiakgaaGreatDoor
open Go.RowKit
set_option linter.unusedVariables false
set_option linter.unusedSimpArgs false

set_option maxRecDepth 100000 in
set_option maxHeartbeats 2000000 in
theorem whashes_e {p : Nat} {g : Option Nat} {M : List UInt8} {ec : Int} (a : Addr) (L : List (List UInt8)) (cap : Nat) (w : World) (hL : All32 L) (hb : L.length ≤ 4398046510976) (hl : Hl w (some a) L) (hw0 : K.WS w 28 p g M ec) (hsum : M.length + 64 + 32 * L.length ≤ 140737488355328) :
    Calls Tryz.prog 41 #[.pointer (some ⟨p, 0, none⟩), .slice (some a) L.length cap] w fun x w' => x = .returned (.tuple #[]) ∧ ∃ D, Srt L D ∧ D.length ≤ L.length ∧ K.Wr w w' 28 p g (K.wA M ec (hw D)) ec := by
  have HC : Hid (Calls Tryz.prog 114 #[.slice (some a) L.length cap] w fun e w' => ∃ g cap', e = .returned (.slice (some ⟨g, 0, none⟩) L.length cap') ∧ OwnH w' w.heap.size (.slice (some ⟨g, 0, none⟩) L.length cap') L ∧ Below w.heap.size w w') := cloneH_any a L cap w hL (by omega) hl
  obtain ⟨n, hn⟩ : ∃ n, n = L.length := ⟨_, rfl⟩
  rw [← hn] at hb HC hsum ⊢
  have HN : Hid (n = L.length) := hn
  clear hn hl
  have hlt := hw0.lt
  have HW : Hid (K.WS w 28 p g M ec) := hw0
  clear hw0
  go_enter Tryz.func41, Tryz.ntmps41
  go_wp2_with fail
  refine HC.out.mono ?_
  rintro e w1 ⟨q, cap', rfl, own1, be1⟩
  clear HC
  obtain ⟨hqB, hq1, hs1, ht1, hcap⟩ : w.heap.size ≤ q ∧ q < w1.heap.size ∧ Hs w1 q 0 L ∧ w1.there q 0 (32 * L.length) ∧ L.length ≤ cap' := by
    rcases own1.open with ⟨h1, _⟩ | ⟨g', c', h1, h6, h2, h3, h4, h5⟩
    · cases h1
    · cases h1; exact ⟨h2, h3, h4, h5, h6⟩
  have HS : Hid (Calls Tryz.prog 115 #[.slice (some ⟨q, 0, none⟩) n cap', .func (.func 116) #[] #[]] w1 fun e w' => e = .returned (.tuple #[]) ∧
      ∃ L' : List (List UInt8), L'.Perm L ∧ Rises L' ∧ Hs w' q 0 L' ∧ w'.there q 0 (32 * L.length) ∧ ∀ B, B ≤ q → Below B w1 w') := (by
    rw [HN.out]
    exact sortH_any q L cap' w1 hL (by rw [← HN.out]; omega) hq1 hs1 ht1)
  clear own1 hs1 ht1
  go_wp2_with fail
  refine HS.out.mono ?_
  rintro e w2 ⟨rfl, R, hpm, hri, hs2, ht2, hbel⟩
  have be2 : Below w.heap.size w w2 := be1.trans (hbel _ hqB)
  have hsz2 : w1.heap.size ≤ w2.heap.size := (hbel 0 (by omega)).size
  have hRn : R.length = L.length := hpm.length_eq
  have HR32 : Hid (All32 R) := fun x hx => hL x (hpm.mem_iff.1 hx)
  have HSR : Hid (Srt L (dd R)) := srt_dd hL hpm hri
  have HCo : Hid (Calls Tryz.prog 117 #[.slice (some ⟨q, 0, none⟩) n cap'] w2 fun e w' => e = .returned (.slice (some ⟨q, 0, none⟩) (dd R).length cap') ∧ Hs w' q 0 (dd R) ∧ (∀ B, B ≤ q → Below B w2 w') ∧ q < w'.heap.size) := (by
    rw [HN.out, ← hRn]
    exact compactH q R cap' w2 HR32.out (by rw [hRn, ← HN.out]; omega) (by rw [hRn]; exact hcap) (by omega) hs2 (by rw [hRn]; exact ht2))
  have hDn : (dd R).length ≤ n := (by rw [HN.out, ← hRn]; exact dd_length_le R)
  clear HS hpm hri hs2 ht2 hbel be1 hRn HR32
  generalize dd R = D at *
  go_wp2_with fail
  refine HCo.out.mono ?_
  rintro e w3 ⟨rfl, hs3, hbel, hq3⟩
  have be3 : Below w.heap.size w w3 := be2.trans (hbel _ hqB)
  have WS3 : K.WS w3 28 p g M ec := HW.out.below be3
  have hqg : some q ≠ g := WS.gone HW.out hqB
  have hqp : q ≠ p := by omega
  have HD32 : Hid (All32 D) := HSR.out.2.1
  obtain ⟨m, hm⟩ : ∃ m, m = D.length := ⟨_, rfl⟩
  have HU : Hid (Calls Tryz.prog 26 #[.pointer (some ⟨p, 0, none⟩), .int .u64 (m : Int)] w3 fun x w' => x = .returned (.tuple #[]) ∧ K.Wr w3 w' 28 p g (K.wA M ec (K.vint m)) ec) := (by
    have := K.wuint_any m (by omega) w3 WS3 (by omega)
    exact this)
  rw [← hm] at hDn ⊢
  have HM : Hid (m = D.length) := hm
  have HS3 : Hid (Hs w3 q 0 D) := hs3
  clear HCo hs3 hbel be2 hsz2 hm WS3 HW
  go_wp2_with fail
  refine HU.out.mono ?_
  rintro e w4 ⟨rfl, wr4⟩
  have HS4 : Hid (Hs w4 q 0 D) := (by obtain ⟨g1, _, f, _⟩ := wr4; exact hs_frw HD32.out HS3.out f hq3 hqp hqg : Hs w4 q 0 D)
  have HW4 : Hid (K.Wr w3 w4 28 p g (K.wA M ec (K.vint m)) ec) := wr4
  have hlt4 : w3.heap.size ≤ w4.heap.size := by obtain ⟨g1, _, f, _⟩ := wr4; exact f.size
  clear wr4 HU HS3
  have hzs : (bs z32).size = 32 := by rw [bs_size]; rfl
  go_wp2
  go_loopw [20] (fun i wr => ∃ k : Nat, k ≤ m ∧ i = .int .i64 k ∧ Hid (K.Wr w3 wr 28 p g (K.wA M ec (K.vint m ++ cat (D.take k))) ec) ∧ Hid (Hs wr q 0 D)) (fun i _ => m - (intOf i).toNat)
  case atStart => exact ⟨0, by omega, rfl, (by have := HW4.out; simpa [cat] using this : K.Wr w3 w4 28 p g (K.wA M ec (K.vint m ++ cat (D.take 0))) ec), HS4.out⟩
  case round =>
    obtain ⟨k, hk, rfl, HWr, HSr⟩ := hrel
    by_cases hkm : k < m
    · have hkD : k < D.length := by rw [← HM.out]; exact hkm
      obtain ⟨x, hx⟩ : ∃ x, D[k]? = some x := ⟨_, List.getElem?_eq_getElem hkD⟩
      have hx32 := HD32.out.get hx
      have HR : Hid (wr.rangeAt q (32 * k) (hcs x)) := (by have := HSr.out k x hx; rwa [Nat.zero_add] at this : wr.rangeAt q (32 * k) (hcs x))
      have ix1 := fun wx => indexH q 0 m cap' k wx hkm
      simp only [Nat.zero_add] at ix1
      have be : Below wr.heap.size wr (wr.alloc (.cells (bs x) 36)) := (Below.refl _ _).alloc (Nat.le_refl _) _
      have HC : Hid (Calls Tryz.prog 39 #[.pointer (some ⟨p, 0, none⟩), .agg (bs x)] (wr.alloc (.cells (bs x) 36)) fun e w' => e = .returned (.tuple #[]) ∧ K.Wr w3 w' 28 p g (K.wA M ec (K.vint m ++ cat (D.take (k + 1)))) ec ∧ Hs w' q 0 D) := (by
        obtain ⟨g1, ws1, f1, n1⟩ := HWr.out
        have hqr : q < wr.heap.size := by have := f1.size; omega
        have hqg1 := nw_apart n1 hq3 hqg
        have hlen : (K.wA M ec (K.vint m ++ cat (D.take k))).length ≤ 140737488355328 - 32 := by
          have h1 := cat_len (all32_take HD32.out k)
          have h2 := K.vint_10 m (by omega)
          have h3 : (D.take k).length ≤ k := by simp; omega
          have h4 := K.wA_len M ec (K.vint m ++ cat (D.take k))
          rw [List.length_append] at h4
          omega
        refine (whash_any x hx32 _ (ws1.below be) (by omega)).mono ?_
        rintro e w' ⟨rfl, wr'⟩
        rw [K.wA_wA] at wr'
        refine ⟨rfl, ?_, ?_⟩
        · rw [cat_snoc D k x hx, ← List.append_assoc (K.vint m)]
          exact K.Wr.step f1 n1 (K.Wr.pre be wr')
        · obtain ⟨g2, _, f2, _⟩ := wr'
          exact hs_frw HD32.out (HSr.out.below be hqr) f2 (by simp; omega) hqp hqg1)
      clear hx HWr HSr be
      go_wp2_with (first
        | (refine wpList_load_mid rfl 36 _ rfl q (32 * k) rfl (hcs x) _ HR.out Tryz.underlying36 rfl (by rw [hcs_len, hx32]; exact hsH) ?_; rw [hcs_arr])
        | (refine wpList_alloc_row rfl 36 rfl (bs z32) (hzH _) ?_)
        | (refine wpList_store_row rfl 36 _ _ rfl wr.heap.size (bs x) rfl rfl 36 (bs z32) (heap_alloc_new _ _) (by rw [bs_size, hx32]; exact hsH) (by rw [hzs, bs_size, hx32]) (bs_one _) ?_; rw [World.setRow_alloc_new])
        | (refine wpList_load_arr rfl 36 _ rfl wr.heap.size rfl 36 (bs x) (0, 0) _ (heap_alloc_new _ _) Tryz.underlying36 rfl (by rw [bs_size, hx32]; exact hsH) ?_)
        | fail)
      refine HC.out.mono ?_
      rintro e w5 ⟨rfl, hw5, hs5⟩
      have H5 : Hid (K.Wr w3 w5 28 p g (K.wA M ec (K.vint m ++ cat (D.take (k + 1)))) ec) := hw5
      have G5 : Hid (Hs w5 q 0 D) := hs5
      clear hw5 hs5 HC HR
      go_wp2
      exact ⟨⟨k + 1, by omega, by go_num, H5, G5⟩, by simp [intOf]; omega⟩
    · obtain rfl : k = m := by omega
      have HE : Hid (K.Wr w wr 28 p g (K.wA M ec (hw D)) ec) := (by
        have h1 := HWr.out
        rw [HM.out, List.take_length] at h1
        exact K.Wr.pre be3 h1)
      go_wp2
      go_end0
      exact ⟨rfl, D, HSR.out, (by rw [← HM.out]; exact hDn), HE.out⟩
end Go.Proofs.YtgiblfhajiakgaaGreatDoor

