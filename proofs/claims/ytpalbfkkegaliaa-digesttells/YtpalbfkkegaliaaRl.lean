import Derived.Test.YtpalbfkkegaliaaLm
namespace Go.Proofs.Ytpalbfkkegaliaa
open Go.RowKit
set_option linter.unusedVariables false
set_option linter.unusedSimpArgs false

set_option maxRecDepth 100000 in
set_option maxHeartbeats 2000000 in
theorem rlead_any (a : Option Addr) (L : List (List UInt8)) (cap : Nat) (w : World) (hL : All32 L) (hb : L.length ≤ 4398046511104) (hl : Hl w a L) :
    Calls Try.prog 9 #[.slice a L.length cap] w fun e w' => (∃ n : Nat, e = .returned (.int .i64 n) ∧ IsLead (fun x => x ∈ L) n) ∧ Below w.heap.size w w' := by
  obtain ⟨n, hn⟩ : ∃ n, n = L.length := ⟨_, rfl⟩
  rw [← hn] at hb ⊢
  have HN : Hid (n = L.length) := hn
  clear hn
  go_enter Try.func9, Try.ntmps9
  go_wp2
  go_loopw [3, 4] (fun c i wr => ∃ m k : Nat, k ≤ n ∧ m ≤ 64 ∧ i = .int .i64 k ∧ c = .int .i64 m ∧ Hid (LeadP (Prs L k 0) m) ∧ Below w.heap.size w wr) (fun _ i _ => n - (intOf i).toNat)
  case atStart => exact ⟨0, 0, by omega, by omega, rfl, rfl, LeadP.zero (prs_zero L), Below.refl _ _⟩
  case round =>
    obtain ⟨m0, i, hi, hm64, rfl, rfl, hld, bel⟩ := hrel
    by_cases hin : i < n
    · have hiL : i < L.length := by rw [← HN.out]; exact hin
      obtain ⟨b, off, rfl, hsA⟩ := hl.at hiL
      obtain ⟨x, hx⟩ : ∃ x, L[i]? = some x := ⟨_, List.getElem?_eq_getElem hiL⟩
      have hx32 := hL.get hx
      have HXI : Hid (L[i]? = some x) := hx
      have hbB : b < w.heap.size := hsA.lt hL (by omega)
      have ix1 := fun wx => indexH b off n cap i wx hin
      have HSA : Hid (Hs w b off L) := hsA
      clear hx hsA hl
      go_wp2
      go_loopw [3, 5] (fun c q wr => ∃ m j : Nat, j ≤ i ∧ m ≤ 64 ∧ q = .int .i64 j ∧ c = .int .i64 m ∧ Hid (LeadP (Prs L i j) m) ∧ Below w.heap.size w wr) (fun _ q _ => i - (intOf q).toNat)
      case atStart => exact ⟨m0, 0, by omega, hm64, rfl, rfl, hld, bel⟩
      case round =>
        clear hld hm64
        obtain ⟨m1, j, hj, hm64, rfl, rfl, hld, bel⟩ := hrel
        by_cases hji : j < i
        · have hjL : j < L.length := by omega
          obtain ⟨y, hy⟩ : ∃ y, L[j]? = some y := ⟨_, List.getElem?_eq_getElem hjL⟩
          have hy32 := hL.get hy
          have ix2 := fun wx => indexH b off n cap j wx (by omega)
          have HM : Hid (LeadP (Prs L i (j + 1)) (upL x y m1)) := LeadP.more hld.out (prs_more HXI.out hy)
          have hup : upL x y m1 ≤ 64 := upL_le hx32 hy32 hm64
          have HYJ : Hid (L[j]? = some y) := hy
          clear hy hld
          obtain ⟨U, hU⟩ : ∃ U, U = upL x y m1 := ⟨_, rfl⟩
          rw [← hU] at HM hup
          have HU : Hid (U = upL x y m1) := hU
          clear hU
          go_wp2
          go_loopw [3] (fun c wr => ∃ m : Nat, m ≤ 64 ∧ c = .int .i64 m ∧ Hid (m1 ≤ m ∧ m ≤ U) ∧ Below w.heap.size w wr) (fun c _ => 64 - (intOf c).toNat)
          case atStart => exact ⟨m1, hm64, rfl, (by rw [HU.out]; unfold upL; split <;> omega : m1 ≤ m1 ∧ m1 ≤ U), bel⟩
          case round =>
            clear bel
            obtain ⟨m, hm, rfl, hmm, bel⟩ := hrel
            have hne : Nonempty (ExtT wr) := ExtT.some wr
            have S1 : Hid (wr.rangeAt b (off + 32 * i) (hcs x)) := rangeAt_below (HSA.out i x HXI.out) bel hbB
            have S2 : Hid (wr.rangeAt b (off + 32 * j) (hcs y)) := rangeAt_below (HSA.out j y HYJ.out) bel hbB
            have HX : Hid (∀ wx, Calls Try.prog 16 #[.agg (bs x), .int .i64 (m : Int)] wx fun e w' => e = .returned (.string ⟨(hexl x m).toArray⟩) ∧ Below wx.heap.size wx w') := fun wx => (by
              have h := rshort_any x hx32 (m : Int) wx
              have e : upTo (m : Int) = m := by unfold upTo; rw [if_neg (by omega), if_neg (by omega)]; omega
              rwa [e] at h)
            have HY : Hid (∀ wx, Calls Try.prog 16 #[.agg (bs y), .int .i64 (m : Int)] wx fun e w' => e = .returned (.string ⟨(hexl y m).toArray⟩) ∧ Below wx.heap.size wx w') := fun wx => (by
              have h := rshort_any y hy32 (m : Int) wx
              have e : upTo (m : Int) = m := by unfold upTo; rw [if_neg (by omega), if_neg (by omega)]; omega
              rwa [e] at h)
            have hsame := cut_same (x := x) (y := y) hm
            have eqq : ∀ wx, (Op.equalIn 10000 25 (.agg (bs x)) (.agg (bs y))).run Try.prog wx = .ok (decide (x = y)) wx := fun wx => eq23 x y hx32 hy32 wx
            generalize (⟨(hexl x m).toArray⟩ : ByteArray) = TX at *
            generalize (⟨(hexl y m).toArray⟩ : ByteArray) = TY at *
            by_cases hxy : x = y
            · have hd : decide (x = y) = true := by simp [hxy]
              rw [hd] at eqq
              have HE : Hid (m = U) := (by have h1 := hmm.out; have h2 := HU.out; unfold upL at h2; rw [if_pos hxy] at h2; omega : m = U)
              clear hd hxy hsame
              go_wp2_with fail
              refine wp_region_ext (by kernel_rfl) (by kernel_rfl) ?_
              repeat (first
                | (go_big_quiet_want; refine quiet_load_mid 25 _ rfl b (off + 32 * i) rfl (bs x) _ (by rintro _ ⟨e, rfl⟩; exact e.range S1.out (hcs_pos hx32)) Try.underlying25 rfl (sizeH hx32) ?_; simp [Act.put]; go_big_quiet_on)
                | (go_big_quiet_want; refine quiet_load_mid 25 _ rfl b (off + 32 * j) rfl (bs y) _ (by rintro _ ⟨e, rfl⟩; exact e.range S2.out (hcs_pos hy32)) Try.underlying25 rfl (sizeH hy32) ?_; simp [Act.put]; go_big_quiet_on)
                | go_big_quiet_step (first | (go_at_call_of 16 (bs x); exact ext_of (HX.out _)) | (go_at_call_of 16 (bs y); exact ext_of (HY.out _))))
              refine wpQuiet_nil ?_
              rintro w3 ⟨⟨_, bl3⟩, rfl⟩
              have bel3 : Below w.heap.size w w3 := bel.trans (bl3.mono bel.size)
              go_wp2
              exact ⟨⟨U, j + 1, by omega, hup, by go_num, by rw [HE.out], HM, bel3⟩, by simp [intOf]; omega⟩
            · have hd : decide (x = y) = false := by simp [hxy]
              rw [hd] at eqq
              have HU2 : Hid (U = max m1 (cm x y + 1)) := (by have h2 := HU.out; unfold upL at h2; rwa [if_neg hxy] at h2 : U = max m1 (cm x y + 1))
              have hcl : cm x y < 64 := cm_lt hx32 hy32 hxy
              clear hd hxy
              by_cases h64 : m < 64
              · have h64' : (m : Int) < 64 := by omega
                by_cases hag : m ≤ cm x y
                · have hd2 : decide (m ≤ cm x y) = true := by simp [hag]
                  rw [hd2] at hsame
                  have HK : Hid (m1 ≤ m + 1 ∧ m + 1 ≤ U) := (by have h1 := hmm.out; have h2 := HU2.out; omega : m1 ≤ m + 1 ∧ m + 1 ≤ U)
                  clear hd2 hag hcl
                  go_wp2_with fail
                  refine wp_region_ext (by kernel_rfl) (by kernel_rfl) ?_
                  repeat (first
                    | (go_big_quiet_want; refine quiet_load_mid 25 _ rfl b (off + 32 * i) rfl (bs x) _ (by rintro _ ⟨e, rfl⟩; exact e.range S1.out (hcs_pos hx32)) Try.underlying25 rfl (sizeH hx32) ?_; simp [Act.put]; go_big_quiet_on)
                    | (go_big_quiet_want; refine quiet_load_mid 25 _ rfl b (off + 32 * j) rfl (bs y) _ (by rintro _ ⟨e, rfl⟩; exact e.range S2.out (hcs_pos hy32)) Try.underlying25 rfl (sizeH hy32) ?_; simp [Act.put]; go_big_quiet_on)
                    | go_big_quiet_step (first | (go_at_call_of 16 (bs x); exact ext_of (HX.out _)) | (go_at_call_of 16 (bs y); exact ext_of (HY.out _))))
                  refine wpQuiet_nil ?_
                  rintro w3 ⟨⟨_, bl3⟩, rfl⟩
                  have bel3 : Below w.heap.size w w3 := bel.trans (bl3.mono bel.size)
                  go_wp2
                  exact ⟨⟨m + 1, by omega, by go_num, HK, bel3⟩, by simp [intOf]; omega⟩
                · have hd2 : decide (m ≤ cm x y) = false := by simp; omega
                  rw [hd2] at hsame
                  have HE : Hid (m = U) := (by have h1 := hmm.out; have h2 := HU2.out; omega : m = U)
                  clear hd2 hag hcl
                  go_wp2_with fail
                  refine wp_region_ext (by kernel_rfl) (by kernel_rfl) ?_
                  repeat (first
                    | (go_big_quiet_want; refine quiet_load_mid 25 _ rfl b (off + 32 * i) rfl (bs x) _ (by rintro _ ⟨e, rfl⟩; exact e.range S1.out (hcs_pos hx32)) Try.underlying25 rfl (sizeH hx32) ?_; simp [Act.put]; go_big_quiet_on)
                    | (go_big_quiet_want; refine quiet_load_mid 25 _ rfl b (off + 32 * j) rfl (bs y) _ (by rintro _ ⟨e, rfl⟩; exact e.range S2.out (hcs_pos hy32)) Try.underlying25 rfl (sizeH hy32) ?_; simp [Act.put]; go_big_quiet_on)
                    | go_big_quiet_step (first | (go_at_call_of 16 (bs x); exact ext_of (HX.out _)) | (go_at_call_of 16 (bs y); exact ext_of (HY.out _))))
                  refine wpQuiet_nil ?_
                  rintro w3 ⟨⟨_, bl3⟩, rfl⟩
                  have bel3 : Below w.heap.size w w3 := bel.trans (bl3.mono bel.size)
                  go_wp2
                  exact ⟨⟨U, j + 1, by omega, hup, by go_num, by rw [HE.out], HM, bel3⟩, by simp [intOf]; omega⟩
              · obtain rfl : m = 64 := by omega
                have HE : Hid (64 = U) := (by have h1 := hmm.out; omega : 64 = U)
                clear hsame hcl
                go_wp2_with fail
                refine wp_region_ext (by kernel_rfl) (by kernel_rfl) ?_
                repeat (first
                  | (go_big_quiet_want; refine quiet_load_mid 25 _ rfl b (off + 32 * i) rfl (bs x) _ (by rintro _ ⟨e, rfl⟩; exact e.range S1.out (hcs_pos hx32)) Try.underlying25 rfl (sizeH hx32) ?_; simp [Act.put]; go_big_quiet_on)
                  | (go_big_quiet_want; refine quiet_load_mid 25 _ rfl b (off + 32 * j) rfl (bs y) _ (by rintro _ ⟨e, rfl⟩; exact e.range S2.out (hcs_pos hy32)) Try.underlying25 rfl (sizeH hy32) ?_; simp [Act.put]; go_big_quiet_on)
                  | go_big_quiet_step (first | (go_at_call_of 16 (bs x); exact ext_of (HX.out _)) | (go_at_call_of 16 (bs y); exact ext_of (HY.out _))))
                refine wpQuiet_nil ?_
                rintro w3 ⟨⟨_, bl3⟩, rfl⟩
                have bel3 : Below w.heap.size w w3 := bel.trans (bl3.mono bel.size)
                go_wp2
                exact ⟨⟨U, j + 1, by omega, hup, by go_num, by rw [← HE.out]; rfl, HM, bel3⟩, by simp [intOf]; omega⟩
        · obtain rfl : j = i := by omega
          have HM : Hid (LeadP (Prs L (j + 1) 0) m1) := LeadP.same hld.out prs_next
          go_wp2
          exact ⟨⟨m1, j + 1, by omega, hm64, by go_num, rfl, HM, bel⟩, by simp [intOf]; omega⟩
    · obtain rfl : i = n := by omega
      have HE : Hid (IsLead (fun x => x ∈ L) m0) := lead_of_prs (by rw [← HN.out]; exact hld.out)
      go_wp2
      go_ret
      exact ⟨⟨m0, rfl, HE.out⟩, bel⟩
end Go.Proofs.Ytpalbfkkegaliaa
