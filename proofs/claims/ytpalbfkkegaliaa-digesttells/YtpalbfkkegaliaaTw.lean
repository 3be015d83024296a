import Derived.Test.YtpalbfkkegaliaaTm
namespace Go.Proofs.Ytpalbfkkegaliaa
open Go.RowKit
set_option linter.unusedVariables false
set_option linter.unusedSimpArgs false

/-- The digits of a hash, cut. -/
structure Cuts (S T T1 : ByteArray) (m : Nat) : Prop where
  size : S.size = 64
  at1 : S.extract 0 m = T
  at2 : 0 < m → S.extract 0 (m - 1) = T1
theorem cuts_of (x : List UInt8) (m : Nat) (hm : m ≤ 64) : Cuts ⟨(hexl x 64).toArray⟩ ⟨(hexl x m).toArray⟩ ⟨(hexl x (m - 1)).toArray⟩ m :=
  ⟨by show (hexl x 64).toArray.size = 64; simp [hexl_len], cut_str x m hm, fun _ => cut_str x (m - 1) (by omega)⟩
theorem slice_str (S : ByteArray) (n : Nat) (hn : n ≤ S.size) (w : World) (hs : S.size ≤ 64) : (Instr.slice 9 (.string S) none (some (.int .i64 (n : Int))) none).run Try.prog w = .ok (.string (S.extract 0 n)) w := by
  simp [Instr.slice, Instr.sliceBounds, Instr.sliceBound, asIntOf, run_underlying Try.underlying9, hn]

set_option maxRecDepth 100000 in
set_option maxHeartbeats 4000000 in
theorem pairs_any (m : Nat) (hm64 : m ≤ 64) (a : Option Addr) (L : List (List UInt8)) (cap : Nat) (w : World) (hL : All32 L) (hb : L.length ≤ 4398046511104) (hl : Hl w a L) (hld : IsLead (fun x => x ∈ L) m)
    (HLd : Calls Try.prog 8 #[.slice a L.length cap] w fun e w' => e = .returned (.int .i64 m) ∧ Below w.heap.size w w') :
    Calls Try.prog 4 #[.slice a L.length cap] w fun e w' => e = .returned (.bool true) ∧ Below w.heap.size w w' := by
  obtain ⟨n, hn⟩ : ∃ n, n = L.length := ⟨_, rfl⟩
  rw [← hn] at hb HLd ⊢
  have HN : Hid (n = L.length) := hn
  have HLL : Hid (Calls Try.prog 8 #[.slice a n cap] w fun e w' => e = .returned (.int .i64 m) ∧ Below w.heap.size w w') := HLd
  have HLD : Hid (IsLead (fun x => x ∈ L) m) := hld
  clear hn HLd hld
  go_enter Try.func4, Try.ntmps4
  go_wp2_with fail
  refine HLL.out.mono ?_
  rintro e w1 ⟨rfl, be1⟩
  clear HLL
  have hm0' : ¬ (m : Int) < 0 := by omega
  have hm1' : ¬ (64 : Int) < (m : Int) := by omega
  go_wp2
  go_loopw [4, 5, 6] (fun al sh i wr => ∃ (p q : Bool) (k : Nat), k ≤ n ∧ i = .int .i64 k ∧ al = .bool p ∧ sh = .bool q ∧ Hid (Tel (Prs L k 0) m p q) ∧ Below w.heap.size w wr) (fun _ _ i _ => n - (intOf i).toNat)
  case atStart => exact ⟨true, false, 0, by omega, rfl, rfl, rfl, Tel.zero (prs_zero L), be1⟩
  case round =>
    obtain ⟨al, sh, i, hi, rfl, rfl, rfl, htl, bel⟩ := hrel
    by_cases hin : i < n
    · have hiL : i < L.length := by rw [← HN.out]; exact hin
      obtain ⟨b, off, rfl, hsA⟩ := hl.at hiL
      obtain ⟨x, hx⟩ : ∃ x, L[i]? = some x := ⟨_, List.getElem?_eq_getElem hiL⟩
      have hx32 := hL.get hx
      have HXI : Hid (L[i]? = some x) := hx
      have hbB : b < w.heap.size := hsA.lt hL (by omega)
      have ix1 := fun wx => indexH b off n cap i wx hin
      have HSA : Hid (Hs w b off L) := hsA
      clear hx hsA hl
      go_wp2
      go_loopw [4, 5, 7] (fun al sh q wr => ∃ (p r : Bool) (j : Nat), j ≤ i ∧ q = .int .i64 j ∧ al = .bool p ∧ sh = .bool r ∧ Hid (Tel (Prs L i j) m p r) ∧ Below w.heap.size w wr) (fun _ _ q _ => i - (intOf q).toNat)
      case atStart => exact ⟨al, sh, 0, by omega, rfl, rfl, rfl, htl, bel⟩
      case round =>
        clear htl bel
        obtain ⟨al, sh, j, hj, rfl, rfl, rfl, htl, bel⟩ := hrel
        by_cases hji : j < i
        · have hjL : j < L.length := by omega
          obtain ⟨y, hy⟩ : ∃ y, L[j]? = some y := ⟨_, List.getElem?_eq_getElem hjL⟩
          have hy32 := hL.get hy
          have ix2 := fun wx => indexH b off n cap j wx (by omega)
          have S1 : Hid (wr.rangeAt b (off + 32 * i) (hcs x)) := rangeAt_below (HSA.out i x HXI.out) bel hbB
          have S2 : Hid (wr.rangeAt b (off + 32 * j) (hcs y)) := rangeAt_below (HSA.out j y hy) bel hbB
          have hne : Nonempty (ExtT wr) := ExtT.some wr
          have eqq : ∀ wx, (Op.equalIn 10000 25 (.agg (bs x)) (.agg (bs y))).run Try.prog wx = .ok (decide (x = y)) wx := fun wx => eq23 x y hx32 hy32 wx
          have HX : Hid (∀ wx, Calls Try.prog 11 #[.agg (bs x)] wx fun e w' => e = .returned (.string ⟨(hexl x 64).toArray⟩) ∧ Below wx.heap.size wx w') := fun wx => hex_any x hx32 wx
          have HY : Hid (∀ wx, Calls Try.prog 11 #[.agg (bs y)] wx fun e w' => e = .returned (.string ⟨(hexl y 64).toArray⟩) ∧ Below wx.heap.size wx w') := fun wx => hex_any y hy32 wx
          by_cases hxy : x = y
          · have hd : decide (x = y) = true := by simp [hxy]
            rw [hd] at eqq
            have HT : Hid (Tel (Prs L i (j + 1)) m al sh) := Tel.like htl.out (prs_more HXI.out hy) hxy
            clear hd hxy hy htl
            go_wp2_with fail
            refine wp_region_ext (by kernel_rfl) (by kernel_rfl) ?_
            repeat (first
              | (go_big_quiet_want; refine quiet_load_mid 25 _ rfl b (off + 32 * i) rfl (bs x) _ (by rintro _ ⟨e, rfl⟩; exact e.range S1.out (hcs_pos hx32)) Try.underlying25 rfl (sizeH hx32) ?_; simp only [Act.put, List.setIfInBounds_toArray, List.set_cons_zero, List.set_cons_succ]; go_big_quiet_on)
              | (go_big_quiet_want; refine quiet_load_mid 25 _ rfl b (off + 32 * j) rfl (bs y) _ (by rintro _ ⟨e, rfl⟩; exact e.range S2.out (hcs_pos hy32)) Try.underlying25 rfl (sizeH hy32) ?_; simp only [Act.put, List.setIfInBounds_toArray, List.set_cons_zero, List.set_cons_succ]; go_big_quiet_on)
              | go_big_quiet_step (first | (go_at_call_of 11 (bs x); exact ext_of (HX.out _)) | (go_at_call_of 11 (bs y); exact ext_of (HY.out _)) | fail))
            refine wpQuiet_nil ?_
            rintro w3 ⟨⟨_, bl3⟩, rfl⟩
            go_wp2
            exact ⟨⟨al, sh, j + 1, by omega, by go_num, rfl, rfl, HT, bel.trans (bl3.mono bel.size)⟩, by simp [intOf]; omega⟩
          · have hd : decide (x = y) = false := by simp [hxy]
            rw [hd] at eqq
            have HT : Hid (Tel (Prs L i (j + 1)) m false (sh || decide (m ≤ cm x y + 1))) := Tel.unlike htl.out (prs_more HXI.out hy) hxy
            have hcm : cm x y < m := HLD.out.1 x y (List.mem_of_getElem? HXI.out) (List.mem_of_getElem? hy) hxy
            have hmp : (0 : Int) < (m : Int) := by omega
            have hmp2 : 0 < m := by omega
            have sm1 := cut_same (x := x) (y := y) hm64
            have sm2 := cut_same (x := x) (y := y) (n := m - 1) (by omega)
            have e1 : decide (m ≤ cm x y) = false := by simp; omega
            have e2 : decide (m - 1 ≤ cm x y) = decide (m ≤ cm x y + 1) := decide_eq_decide.2 ⟨fun h => by omega, fun h => by omega⟩
            rw [e1] at sm1
            rw [e2] at sm2
            have CX := cuts_of x m hm64
            have CY := cuts_of y m hm64
            generalize (⟨(hexl x 64).toArray⟩ : ByteArray) = SX at *
            generalize (⟨(hexl y 64).toArray⟩ : ByteArray) = SY at *
            generalize (⟨(hexl x m).toArray⟩ : ByteArray) = TX at *
            generalize (⟨(hexl y m).toArray⟩ : ByteArray) = TY at *
            generalize (⟨(hexl x (m - 1)).toArray⟩ : ByteArray) = UX at *
            generalize (⟨(hexl y (m - 1)).toArray⟩ : ByteArray) = UY at *
            generalize decide (m ≤ cm x y + 1) = bb at *
            have wk : IntKind.i64.wrap ((m : Int) - 1) = ((m - 1 : Nat) : Int) := by simp only [IntKind.wrap, IntKind.bits, IntKind.signed]; simp; omega
            have wk2 : wrap64 ((m : Int) - 1) = ((m - 1 : Nat) : Int) := by unfold wrap64; omega
            have q1 : ∀ wx, (Instr.slice 9 (.string SX) none (some (.int .i64 (m : Int))) none).run Try.prog wx = .ok (.string TX) wx := fun wx => by rw [slice_str SX m (by rw [CX.size]; exact hm64) wx (by rw [CX.size]; omega), CX.at1]
            have q2 : ∀ wx, (Instr.slice 9 (.string SY) none (some (.int .i64 (m : Int))) none).run Try.prog wx = .ok (.string TY) wx := fun wx => by rw [slice_str SY m (by rw [CY.size]; exact hm64) wx (by rw [CY.size]; omega), CY.at1]
            have q3 : ∀ wx, (Instr.slice 9 (.string SX) none (some (.int .i64 ((m - 1 : Nat) : Int))) none).run Try.prog wx = .ok (.string UX) wx := fun wx => by rw [slice_str SX (m - 1) (by rw [CX.size]; omega) wx (by rw [CX.size]; omega), CX.at2 (by omega)]
            have q4 : ∀ wx, (Instr.slice 9 (.string SY) none (some (.int .i64 ((m - 1 : Nat) : Int))) none).run Try.prog wx = .ok (.string UY) wx := fun wx => by rw [slice_str SY (m - 1) (by rw [CY.size]; omega) wx (by rw [CY.size]; omega), CY.at2 (by omega)]
            clear hd hxy hy htl e1 e2 CX CY hcm
            go_wp2_with fail
            refine wp_region_ext (by kernel_rfl) (by kernel_rfl) ?_
            repeat (first
              | (go_big_quiet_want; refine quiet_load_mid 25 _ rfl b (off + 32 * i) rfl (bs x) _ (by rintro _ ⟨e, rfl⟩; exact e.range S1.out (hcs_pos hx32)) Try.underlying25 rfl (sizeH hx32) ?_; simp only [Act.put, List.setIfInBounds_toArray, List.set_cons_zero, List.set_cons_succ]; go_big_quiet_on)
              | (go_big_quiet_want; refine quiet_load_mid 25 _ rfl b (off + 32 * j) rfl (bs y) _ (by rintro _ ⟨e, rfl⟩; exact e.range S2.out (hcs_pos hy32)) Try.underlying25 rfl (sizeH hy32) ?_; simp only [Act.put, List.setIfInBounds_toArray, List.set_cons_zero, List.set_cons_succ]; go_big_quiet_on)
              | go_big_quiet_step (first | (go_at_call_of 11 (bs x); exact ext_of (HX.out _)) | (go_at_call_of 11 (bs y); exact ext_of (HY.out _)) | fail))
            refine wpQuiet_nil ?_
            rintro w3 ⟨⟨_, bl3⟩, rfl⟩
            have bel3 : Below w.heap.size w w3 := bel.trans (bl3.mono bel.size)
            have S1b : Hid (w3.rangeAt b (off + 32 * i) (hcs x)) := rangeAt_below S1.out bl3 (by have := bel.size; omega)
            have S2b : Hid (w3.rangeAt b (off + 32 * j) (hcs y)) := rangeAt_below S2.out bl3 (by have := bel.size; omega)
            clear hne bel bl3 S1 S2
            have hne : Nonempty (ExtT w3) := ExtT.some w3
            go_wp2_with fail
            refine wp_region_ext (by kernel_rfl) (by kernel_rfl) ?_
            repeat (first
              | (go_big_quiet_want; refine quiet_load_mid 25 _ rfl b (off + 32 * i) rfl (bs x) _ (by rintro _ ⟨e, rfl⟩; exact e.range S1b.out (hcs_pos hx32)) Try.underlying25 rfl (sizeH hx32) ?_; simp only [Act.put, List.setIfInBounds_toArray, List.set_cons_zero, List.set_cons_succ]; go_big_quiet_on)
              | (go_big_quiet_want; refine quiet_load_mid 25 _ rfl b (off + 32 * j) rfl (bs y) _ (by rintro _ ⟨e, rfl⟩; exact e.range S2b.out (hcs_pos hy32)) Try.underlying25 rfl (sizeH hy32) ?_; simp only [Act.put, List.setIfInBounds_toArray, List.set_cons_zero, List.set_cons_succ]; go_big_quiet_on)
              | go_big_quiet_step (first | (go_at_call_of 11 (bs x); exact ext_of (HX.out _)) | (go_at_call_of 11 (bs y); exact ext_of (HY.out _)) | fail))
            refine wpQuiet_nil ?_
            rintro w4 ⟨⟨_, bl4⟩, rfl⟩
            have bel4 : Below w.heap.size w w4 := bel3.trans (bl4.mono bel3.size)
            have S1c : Hid (w4.rangeAt b (off + 32 * i) (hcs x)) := rangeAt_below S1b.out bl4 (by have := bel3.size; omega)
            have S2c : Hid (w4.rangeAt b (off + 32 * j) (hcs y)) := rangeAt_below S2b.out bl4 (by have := bel3.size; omega)
            clear hne bel3 bl4 S1b S2b
            have hne : Nonempty (ExtT w4) := ExtT.some w4
            cases sh
            · simp only [Bool.false_or] at HT
              go_wp2_with fail
              refine wp_region_ext (by kernel_rfl) (by kernel_rfl) ?_
              repeat (first
                | (go_big_quiet_want; refine quiet_load_mid 25 _ rfl b (off + 32 * i) rfl (bs x) _ (by rintro _ ⟨e, rfl⟩; exact e.range S1c.out (hcs_pos hx32)) Try.underlying25 rfl (sizeH hx32) ?_; simp only [Act.put, List.setIfInBounds_toArray, List.set_cons_zero, List.set_cons_succ]; go_big_quiet_on)
                | (go_big_quiet_want; refine quiet_load_mid 25 _ rfl b (off + 32 * j) rfl (bs y) _ (by rintro _ ⟨e, rfl⟩; exact e.range S2c.out (hcs_pos hy32)) Try.underlying25 rfl (sizeH hy32) ?_; simp only [Act.put, List.setIfInBounds_toArray, List.set_cons_zero, List.set_cons_succ]; go_big_quiet_on)
                | go_big_quiet_step (first | (go_at_call_of 11 (bs x); exact ext_of (HX.out _)) | (go_at_call_of 11 (bs y); exact ext_of (HY.out _)) | fail))
              refine wpQuiet_nil ?_
              rintro w5 ⟨⟨_, bl5⟩, rfl⟩
              go_wp2
              exact ⟨⟨false, bb, j + 1, by omega, by go_num, rfl, rfl, HT, bel4.trans (bl5.mono bel4.size)⟩, by simp [intOf]; omega⟩
            · simp only [Bool.true_or] at HT
              go_wp2_with fail
              refine wp_region_ext (by kernel_rfl) (by kernel_rfl) ?_
              repeat (first
                | (go_big_quiet_want; refine quiet_load_mid 25 _ rfl b (off + 32 * i) rfl (bs x) _ (by rintro _ ⟨e, rfl⟩; exact e.range S1c.out (hcs_pos hx32)) Try.underlying25 rfl (sizeH hx32) ?_; simp only [Act.put, List.setIfInBounds_toArray, List.set_cons_zero, List.set_cons_succ]; go_big_quiet_on)
                | (go_big_quiet_want; refine quiet_load_mid 25 _ rfl b (off + 32 * j) rfl (bs y) _ (by rintro _ ⟨e, rfl⟩; exact e.range S2c.out (hcs_pos hy32)) Try.underlying25 rfl (sizeH hy32) ?_; simp only [Act.put, List.setIfInBounds_toArray, List.set_cons_zero, List.set_cons_succ]; go_big_quiet_on)
                | go_big_quiet_step (first | (go_at_call_of 11 (bs x); exact ext_of (HX.out _)) | (go_at_call_of 11 (bs y); exact ext_of (HY.out _)) | fail))
              refine wpQuiet_nil ?_
              rintro w5 ⟨⟨_, bl5⟩, rfl⟩
              go_wp2
              exact ⟨⟨false, true, j + 1, by omega, by go_num, rfl, rfl, HT, bel4.trans (bl5.mono bel4.size)⟩, by simp [intOf]; omega⟩
        · obtain rfl : j = i := by omega
          have HT : Hid (Tel (Prs L (j + 1) 0) m al sh) := Tel.same htl.out prs_next
          go_wp2
          exact ⟨⟨al, sh, j + 1, by omega, by go_num, rfl, rfl, HT, bel⟩, by simp [intOf]; omega⟩
    · obtain rfl : n = i := by omega
      have hend := tel_end (by rw [← HN.out]; exact htl.out) HLD.out
      have HF : Hid (∀ k x, L[k]? = some x → ∀ wx, Hl wx a L → Calls Try.prog 6 #[.string ⟨(hexl x m).toArray⟩, .slice a n cap] wx fun e w' => e = .returned (.tuple #[.agg (bs x), .int .i64 0]) ∧ Below wx.heap.size wx w') := (fun k x hx wx h => by
        have h2 := find_any ⟨(hexl x m).toArray⟩ (by show (hexl x m).toArray.size ≤ maxLen; simp [hexl_len, maxLen]; omega) a L cap wx hL (by rw [← HN.out]; exact hb) h
        rw [findA_lead hL hm64 HLD.out (List.mem_of_getElem? hx), ← HN.out] at h2
        exact h2)
      have HE : Hid (∀ wx, Calls Try.prog 6 #[.string ⟨#[]⟩, .slice none 0 0] wx fun e w' => e = .returned (.tuple #[.agg (bs z32), .int .i64 4]) ∧ Below wx.heap.size wx w') := (fun wx => by
        have h2 := find_any ⟨#[]⟩ (by show 0 ≤ maxLen; simp [maxLen]) none [] 0 wx (fun _ h => by simp at h) (by simp) (.inl rfl)
        rw [findA_empty] at h2
        exact h2)
      have hzs : (bs z32).size = 32 := by rw [bs_size]; rfl
      have HL : Hid (Hl w a L) := hl
      clear htl hl
      have HSH : Hid (∀ x, x.length = 32 → ∀ wx, Calls Try.prog 12 #[.agg (bs x), .int .i64 (m : Int)] wx fun e w' => e = .returned (.string ⟨(hexl x m).toArray⟩) ∧ Below wx.heap.size wx w') := fun x hx wx => (by
        have h := short_any x hx (m : Int) wx
        have e : upTo (m : Int) = m := by unfold upTo; rw [if_neg (by omega), if_neg (by omega)]; omega
        rwa [e] at h)
      have hcase : (al = true ∧ m = 0) ∨ (al = false ∧ 0 < m ∧ sh = true) := hend
      clear hend
      have hrest : ∀ (P1 : Prop), P1 → P1 := fun _ h => h
      rcases hcase with ⟨rfl, hm0⟩ | ⟨rfl, hmp, rfl⟩
      · have hz : (m : Int) = 0 := by omega
        clear hm0
        go_wp2_with fail
        clear hz
        go_loopw [8] (fun i wr => ∃ k : Nat, k ≤ n ∧ i = .int .i64 k ∧ Below w.heap.size w wr) (fun i _ => n - (intOf i).toNat)
        case atStart => exact ⟨0, by omega, rfl, bel⟩
        case round =>
          clear bel
          obtain ⟨k, hk, rfl, bel⟩ := hrel
          by_cases hkn : k < n
          · have hkL : k < L.length := by rw [← HN.out]; exact hkn
            obtain ⟨b, off, rfl, hsA⟩ := HL.out.at hkL
            obtain ⟨x, hx⟩ : ∃ x, L[k]? = some x := ⟨_, List.getElem?_eq_getElem hkL⟩
            have hx32 := hL.get hx
            have hbB : b < w.heap.size := hsA.lt hL (by omega)
            have HR : Hid (wr.rangeAt b (off + 32 * k) (hcs x)) := rangeAt_below (hsA k x hx) bel hbB
            have ix1 := fun wx => indexH b off n cap k wx hkn
            have HS1 := HSH.out x hx32
            have HS2 : Hid (∀ wx, Calls Try.prog 12 #[.agg (bs x), .int .i64 (m : Int)] wx fun e w' => e = .returned (.string ⟨(hexl x m).toArray⟩) ∧ Below wx.heap.size wx w') := HS1
            have HF2 : Hid (∀ wx, Hl wx (some ⟨b, off, none⟩) L → Calls Try.prog 6 #[.string ⟨(hexl x m).toArray⟩, .slice (some ⟨b, off, none⟩) n cap] wx fun e w' => e = .returned (.tuple #[.agg (bs x), .int .i64 0]) ∧ Below wx.heap.size wx w') := fun wx h => HF.out k x hx wx h
            have eqq : ∀ wx, (Op.equalIn 10000 25 (.agg (bs x)) (.agg (bs x))).run Try.prog wx = .ok true wx := fun wx => (by have := eq23 x x hx32 hx32 wx; simpa using this)
            clear HS1 hsA hx
            generalize (⟨(hexl x m).toArray⟩ : ByteArray) = TX at *
            go_wp2_with (first
              | (refine wpList_load_mid rfl 25 _ rfl b (off + 32 * k) rfl (hcs x) _ HR.out Try.underlying25 rfl (by rw [hcs_len, hx32]; exact hsH) ?_; rw [hcs_arr])
              | fail)
            refine (HS2.out _).mono ?_
            rintro e w2 ⟨rfl, bl2⟩
            have bel2 : Below w.heap.size w w2 := bel.trans (bl2.mono bel.size)
            go_wp2_with fail
            refine (HF2.out _ (HL.out.below hL bel2)).mono ?_
            rintro e w3 ⟨rfl, bl3⟩
            have bel3 : Below w.heap.size w w3 := bel2.trans (bl3.mono bel2.size)
            have R3 : Hid (w3.rangeAt b (off + 32 * k) (hcs x)) := rangeAt_below (rangeAt_below HR.out bl2 (by have := bel.size; omega)) bl3 (by have := bel2.size; omega)
            go_wp2_with (first
              | (refine wpList_alloc_row rfl 25 rfl (bs z32) (hz23 _) ?_)
              | (refine wpList_store_row rfl 25 _ _ rfl w3.heap.size (bs x) rfl rfl 25 (bs z32) (heap_alloc_new _ _) (by rw [bs_size, hx32]; exact hs23) (by rw [hzs, bs_size, hx32]) (bs_one _) ?_; rw [World.setRow_alloc_new])
              | fail)
            have c4 : (w3.alloc (.cells (bs x) 25)).rangeAt w3.heap.size 0 (hcs x) := range_row (heap_alloc_new _ _)
            have b4 : Below w3.heap.size w3 (w3.alloc (.cells (bs x) 25)) := (Below.refl _ _).alloc (Nat.le_refl _) _
            have bel4 : Below w.heap.size w (w3.alloc (.cells (bs x) 25)) := bel3.trans (b4.mono bel3.size)
            have R4 : Hid ((w3.alloc (.cells (bs x) 25)).rangeAt b (off + 32 * k) (hcs x)) := rangeAt_below R3.out b4 (by have := bel3.size; omega)
            have C4 : Hid ((w3.alloc (.cells (bs x) 25)).rangeAt w3.heap.size 0 (hcs x)) := c4
            clear c4 b4 R3
            generalize w3.heap.size = g3 at *
            generalize (w3.alloc (.cells (bs x) 25)) = w4 at *
            have hne : Nonempty (ExtT w4) := ExtT.some w4
            refine wp_region_ext (by kernel_rfl) (by kernel_rfl) ?_
            repeat (first
              | (go_big_quiet_want; refine quiet_load_mid 25 _ rfl g3 0 rfl (bs x) _ (by rintro _ ⟨e, rfl⟩; exact e.range C4.out (hcs_pos hx32)) Try.underlying25 rfl (sizeH hx32) ?_; simp only [Act.put, List.setIfInBounds_toArray, List.set_cons_zero, List.set_cons_succ]; go_big_quiet_on)
              | (go_big_quiet_want; refine quiet_load_mid 25 _ rfl b (off + 32 * k) rfl (bs x) _ (by rintro _ ⟨e, rfl⟩; exact e.range R4.out (hcs_pos hx32)) Try.underlying25 rfl (sizeH hx32) ?_; simp only [Act.put, List.setIfInBounds_toArray, List.set_cons_zero, List.set_cons_succ]; go_big_quiet_on)
              | go_big_quiet_step (fail))
            refine wpQuiet_nil ?_
            rintro w5 ⟨⟨_, bl5⟩, rfl⟩
            go_wp2
            go_roundw
            case rel => exact ⟨k + 1, by omega, by go_num, bel4.trans (bl5.mono bel4.size)⟩
            case measure => simp [intOf]; omega
          · obtain rfl : k = n := by omega
            go_wp2_with fail
            refine (HE.out _).mono ?_
            rintro e w2 ⟨rfl, bl2⟩
            have bel2 : Below w.heap.size w w2 := bel.trans (bl2.mono bel.size)
            go_wp2_with (first
              | (refine wpList_alloc_row rfl 25 rfl (bs z32) (hz23 _) ?_)
              | (refine wpList_store_row rfl 25 _ _ rfl w2.heap.size (bs z32) rfl rfl 25 (bs z32) (heap_alloc_new _ _) (by rw [hzs]; exact hs23) rfl (bs_one _) ?_; rw [World.setRow_alloc_new])
              | fail)
            go_ret
            exact ⟨rfl, bel2.alloc bel2.size _⟩
      · have hmz : ¬ (m : Int) = 0 := by omega
        have hmz2 : ¬ m = 0 := by omega
        clear hmp
        go_wp2_with fail
        clear hmz hmz2
        generalize ((m : Int) == 0) = bz
        go_loopw [8] (fun i wr => ∃ k : Nat, k ≤ n ∧ i = .int .i64 k ∧ Below w.heap.size w wr) (fun i _ => n - (intOf i).toNat)
        case atStart => exact ⟨0, by omega, rfl, bel⟩
        case round =>
          clear bel
          obtain ⟨k, hk, rfl, bel⟩ := hrel
          by_cases hkn : k < n
          · have hkL : k < L.length := by rw [← HN.out]; exact hkn
            obtain ⟨b, off, rfl, hsA⟩ := HL.out.at hkL
            obtain ⟨x, hx⟩ : ∃ x, L[k]? = some x := ⟨_, List.getElem?_eq_getElem hkL⟩
            have hx32 := hL.get hx
            have hbB : b < w.heap.size := hsA.lt hL (by omega)
            have HR : Hid (wr.rangeAt b (off + 32 * k) (hcs x)) := rangeAt_below (hsA k x hx) bel hbB
            have ix1 := fun wx => indexH b off n cap k wx hkn
            have HS1 := HSH.out x hx32
            have HS2 : Hid (∀ wx, Calls Try.prog 12 #[.agg (bs x), .int .i64 (m : Int)] wx fun e w' => e = .returned (.string ⟨(hexl x m).toArray⟩) ∧ Below wx.heap.size wx w') := HS1
            have HF2 : Hid (∀ wx, Hl wx (some ⟨b, off, none⟩) L → Calls Try.prog 6 #[.string ⟨(hexl x m).toArray⟩, .slice (some ⟨b, off, none⟩) n cap] wx fun e w' => e = .returned (.tuple #[.agg (bs x), .int .i64 0]) ∧ Below wx.heap.size wx w') := fun wx h => HF.out k x hx wx h
            have eqq : ∀ wx, (Op.equalIn 10000 25 (.agg (bs x)) (.agg (bs x))).run Try.prog wx = .ok true wx := fun wx => (by have := eq23 x x hx32 hx32 wx; simpa using this)
            clear HS1 hsA hx
            generalize (⟨(hexl x m).toArray⟩ : ByteArray) = TX at *
            go_wp2_with (first
              | (refine wpList_load_mid rfl 25 _ rfl b (off + 32 * k) rfl (hcs x) _ HR.out Try.underlying25 rfl (by rw [hcs_len, hx32]; exact hsH) ?_; rw [hcs_arr])
              | fail)
            refine (HS2.out _).mono ?_
            rintro e w2 ⟨rfl, bl2⟩
            have bel2 : Below w.heap.size w w2 := bel.trans (bl2.mono bel.size)
            go_wp2_with fail
            refine (HF2.out _ (HL.out.below hL bel2)).mono ?_
            rintro e w3 ⟨rfl, bl3⟩
            have bel3 : Below w.heap.size w w3 := bel2.trans (bl3.mono bel2.size)
            have R3 : Hid (w3.rangeAt b (off + 32 * k) (hcs x)) := rangeAt_below (rangeAt_below HR.out bl2 (by have := bel.size; omega)) bl3 (by have := bel2.size; omega)
            go_wp2_with (first
              | (refine wpList_alloc_row rfl 25 rfl (bs z32) (hz23 _) ?_)
              | (refine wpList_store_row rfl 25 _ _ rfl w3.heap.size (bs x) rfl rfl 25 (bs z32) (heap_alloc_new _ _) (by rw [bs_size, hx32]; exact hs23) (by rw [hzs, bs_size, hx32]) (bs_one _) ?_; rw [World.setRow_alloc_new])
              | fail)
            have c4 : (w3.alloc (.cells (bs x) 25)).rangeAt w3.heap.size 0 (hcs x) := range_row (heap_alloc_new _ _)
            have b4 : Below w3.heap.size w3 (w3.alloc (.cells (bs x) 25)) := (Below.refl _ _).alloc (Nat.le_refl _) _
            have bel4 : Below w.heap.size w (w3.alloc (.cells (bs x) 25)) := bel3.trans (b4.mono bel3.size)
            have R4 : Hid ((w3.alloc (.cells (bs x) 25)).rangeAt b (off + 32 * k) (hcs x)) := rangeAt_below R3.out b4 (by have := bel3.size; omega)
            have C4 : Hid ((w3.alloc (.cells (bs x) 25)).rangeAt w3.heap.size 0 (hcs x)) := c4
            clear c4 b4 R3
            generalize w3.heap.size = g3 at *
            generalize (w3.alloc (.cells (bs x) 25)) = w4 at *
            have hne : Nonempty (ExtT w4) := ExtT.some w4
            refine wp_region_ext (by kernel_rfl) (by kernel_rfl) ?_
            repeat (first
              | (go_big_quiet_want; refine quiet_load_mid 25 _ rfl g3 0 rfl (bs x) _ (by rintro _ ⟨e, rfl⟩; exact e.range C4.out (hcs_pos hx32)) Try.underlying25 rfl (sizeH hx32) ?_; simp only [Act.put, List.setIfInBounds_toArray, List.set_cons_zero, List.set_cons_succ]; go_big_quiet_on)
              | (go_big_quiet_want; refine quiet_load_mid 25 _ rfl b (off + 32 * k) rfl (bs x) _ (by rintro _ ⟨e, rfl⟩; exact e.range R4.out (hcs_pos hx32)) Try.underlying25 rfl (sizeH hx32) ?_; simp only [Act.put, List.setIfInBounds_toArray, List.set_cons_zero, List.set_cons_succ]; go_big_quiet_on)
              | go_big_quiet_step (fail))
            refine wpQuiet_nil ?_
            rintro w5 ⟨⟨_, bl5⟩, rfl⟩
            go_wp2
            go_roundw
            case rel => exact ⟨k + 1, by omega, by go_num, bel4.trans (bl5.mono bel4.size)⟩
            case measure => simp [intOf]; omega
          · obtain rfl : k = n := by omega
            go_wp2_with fail
            refine (HE.out _).mono ?_
            rintro e w2 ⟨rfl, bl2⟩
            have bel2 : Below w.heap.size w w2 := bel.trans (bl2.mono bel.size)
            go_wp2_with (first
              | (refine wpList_alloc_row rfl 25 rfl (bs z32) (hz23 _) ?_)
              | (refine wpList_store_row rfl 25 _ _ rfl w2.heap.size (bs z32) rfl rfl 25 (bs z32) (heap_alloc_new _ _) (by rw [hzs]; exact hs23) rfl (bs_one _) ?_; rw [World.setRow_alloc_new])
              | fail)
            go_ret
            exact ⟨rfl, bel2.alloc bel2.size _⟩
end Go.Proofs.Ytpalbfkkegaliaa
