import Derived.Test.YtpalbfkkegaliabDoorCo0
namespace Go.Proofs.YtpalbfkkegaliabDoor
open Go.RowKit
set_option linter.unusedVariables false
set_option linter.unusedSimpArgs false

set_option maxHeartbeats 1000000 in
/-- Fewer than two: as they are. -/
theorem compact_few (a : Option Addr) (n cap : Nat) (hn : n < 2) (w : World) : Calls Tryd.prog 62 #[.slice a n cap] w fun e w' => e = .returned (.slice a n cap) ∧ w' = w := by
  have h : (n : Int) < 2 := by omega
  go_enter Tryd.func62, Tryd.ntmps62
  go_wp2
  go_ret
  exact ⟨rfl, rfl⟩

/-- How the first ones lie, and that the others are as they were. -/
def Cpt (L M : List (List UInt8)) (i k : Nat) : Prop := M.length = L.length ∧ All32 M ∧ M.take i = dd (L.take k) ∧ (dd (L.take k)).length = i ∧ i < k ∧ ∀ p, k - 1 ≤ p → M[p]? = L[p]?

set_option maxRecDepth 100000 in
set_option maxHeartbeats 4000000 in
theorem compact_any (g : Nat) (L : List (List UInt8)) (cap : Nat) (w : World) (hL : All32 L) (hn2 : 2 ≤ L.length) (hb : L.length ≤ 4398046511104) (hcap : L.length ≤ cap) (hg : g < w.heap.size) (hs : Hs w g 0 L) (ht : w.there g 0 (32 * L.length)) :
    Calls Tryd.prog 62 #[.slice (some ⟨g, 0, none⟩) L.length cap] w fun e w' => e = .returned (.slice (some ⟨g, 0, none⟩) (dd L).length cap) ∧ Hs w' g 0 (dd L) ∧ (∀ B, B ≤ g → Below B w w') ∧ g < w'.heap.size := by
  obtain ⟨n, hnn⟩ : ∃ n, n = L.length := ⟨_, rfl⟩
  have HDD : Hid (dd (L.take n) = dd L) := (by rw [hnn, List.take_length] : dd (L.take n) = dd L)
  rw [← hnn] at hb hn2 ht hcap ⊢
  have HN : Hid (n = L.length) := hnn
  have HS : Hid (Hs w g 0 L) := hs
  have HT : Hid (w.there g 0 (32 * n)) := ht
  clear hnn hs ht
  have h2 : ¬ (n : Int) < 2 := by omega
  go_enter Tryd.func62, Tryd.ntmps62
  go_wp2
  go_loopw [3] (fun i wr => ∃ k : Nat, 1 ≤ k ∧ k ≤ n ∧ i = .int .i64 k ∧ Hid (dd (L.take k) = L.take k) ∧ Below w.heap.size w wr) (fun i _ => n - (intOf i).toNat)
  case atStart => exact ⟨1, by omega, by omega, rfl, dd_take_one L, Below.refl _ _⟩
  case round =>
    obtain ⟨k, hk1, hkn', rfl, hdd, bel⟩ := hrel
    by_cases hkn : k < n
    · have hkL : k < L.length := by rw [← HN.out]; exact hkn
      obtain ⟨x, hx⟩ : ∃ x, L[k]? = some x := ⟨_, List.getElem?_eq_getElem hkL⟩
      obtain ⟨p, hp⟩ : ∃ p, L[k - 1]? = some p := ⟨_, List.getElem?_eq_getElem (by omega)⟩
      have hx32 := hL.get hx
      have hp32 := hL.get hp
      have hne : Nonempty (ExtT wr) := ExtT.some wr
      have S1 : Hid (wr.rangeAt g (32 * (k - 1)) (hcs p)) := (by have := rangeAt_below (HS.out (k - 1) p hp) bel hg; rwa [Nat.zero_add] at this : wr.rangeAt g (32 * (k - 1)) (hcs p))
      have S2 : Hid (wr.rangeAt g (32 * k) (hcs x)) := (by have := rangeAt_below (HS.out k x hx) bel hg; rwa [Nat.zero_add] at this : wr.rangeAt g (32 * k) (hcs x))
      have ix1 : ∀ wx, (Instr.indexAt 37 (.slice (some ⟨g, 0, none⟩) n cap) (.int .i64 ((k : Int) - 1))).run Tryd.prog wx = .ok (.pointer (some ⟨g, 32 * (k - 1), none⟩)) wx := fun wx => (by
        have := indexH g 0 n cap (k - 1) wx (by omega)
        rwa [Nat.zero_add, show ((k - 1 : Nat) : Int) = (k : Int) - 1 by omega] at this)
      have ix2 := fun wx => indexH g 0 n cap k wx hkn
      simp only [Nat.zero_add] at ix2
      have wk : IntKind.i64.wrap ((k : Int) - 1) = (k : Int) - 1 := by simp only [IntKind.wrap, IntKind.bits, IntKind.signed]; simp; omega
      have wk2 : wrap64 ((k : Int) - 1) = (k : Int) - 1 := (by unfold wrap64; omega)
      have eqq : ∀ wx, (Op.equalIn 10000 36 (.agg (bs x)) (.agg (bs p))).run Tryd.prog wx = .ok (decide (x = p)) wx := fun wx => eq23 x p hx32 hp32 wx
      have hsn := dd_snoc L k p x hk1 hp hx
      by_cases hxp : x = p
      · have hd : decide (x = p) = true := by simp [hxp]
        rw [hd] at eqq
        rw [if_pos hxp] at hsn
        have hC : Cpt L L k (k + 1) := ⟨rfl, hL, by rw [hsn, hdd.out], by rw [hsn, hdd.out, List.length_take]; omega, by omega, fun _ _ => rfl⟩
        have HC : Hid (Cpt L L k (k + 1)) := hC
        clear hd hxp hsn hC hdd
        go_wp2_with fail
        refine wp_region_ext (by kernel_rfl) (by kernel_rfl) ?_
        repeat (first
          | (go_big_quiet_want; refine quiet_load_mid 36 _ rfl g (32 * k) rfl (bs x) _ (by rintro _ ⟨e, rfl⟩; exact e.range S2.out (hcs_pos hx32)) Tryd.underlying36 rfl (sizeH hx32) ?_; simp only [Act.put, List.setIfInBounds_toArray, List.set_cons_zero, List.set_cons_succ]; go_big_quiet_on)
          | (go_big_quiet_want; refine quiet_load_mid 36 _ rfl g (32 * (k - 1)) rfl (bs p) _ (by rintro _ ⟨e, rfl⟩; exact e.range S1.out (hcs_pos hp32)) Tryd.underlying36 rfl (sizeH hp32) ?_; simp only [Act.put, List.setIfInBounds_toArray, List.set_cons_zero, List.set_cons_succ]; go_big_quiet_on)
          | go_big_quiet_step (fail))
        refine wpQuiet_nil ?_
        rintro w3 ⟨⟨_, bl3⟩, rfl⟩
        have bel3 : Below w.heap.size w w3 := bel.trans (bl3.mono bel.size)
        have HS3 : Hid (Hs w3 g 0 L) := HS.out.below bel3 hg
        have HT3 : Hid (w3.there g 0 (32 * n)) := there_below HT.out bel3 hg
        have hg3 : g < w3.heap.size := by have := bel3.size; omega
        have HB3 : Hid (∀ B, B ≤ g → Below B w w3) := (fun B hB => bel3.mono (by omega) : ∀ B, B ≤ g → Below B w w3)
        have sl1 := fun wx => slice_fromH g 0 n cap k wx hkn hcap
        simp only [Nat.zero_add] at sl1
        clear bel bl3 bel3 S1 S2 ix1 ix2 eqq wk wk2 hne hp hx
        go_wp2
        go_loopw [3, 5] (fun i q wr => ∃ (i' j : Nat) (M : List (List UInt8)), 1 ≤ j ∧ j ≤ n - k ∧ i' < n ∧ i = .int .i64 i' ∧ q = .int .i64 j ∧ Hid (Cpt L M i' (k + j)) ∧ Hid (Hs wr g 0 M) ∧ Hid (wr.there g 0 (32 * n)) ∧ Hid (∀ B, B ≤ g → Below B w wr) ∧ g < wr.heap.size) (fun _ q _ => n - k - (intOf q).toNat)
        case atStart => exact ⟨k, 1, L, by omega, by omega, hkn, rfl, rfl, HC, HS3, HT3, HB3, hg3⟩
        case round =>
          clear HS3 HT3 HB3 hg3 HC
          obtain ⟨i, j, M, hj1, hjn, hin, rfl, rfl, hC, HM, HT4, HB4, hg4⟩ := hrel
          by_cases hjl : j < n - k
          · obtain ⟨c1, c2, c3, c4, c5, c6⟩ := hC.out
            have hkjL : k + j < L.length := by rw [← HN.out]; omega
            obtain ⟨x, hx⟩ : ∃ x, L[k + j]? = some x := ⟨_, List.getElem?_eq_getElem hkjL⟩
            obtain ⟨p, hp⟩ : ∃ p, L[k + j - 1]? = some p := ⟨_, List.getElem?_eq_getElem (by omega)⟩
            have hx32 := hL.get hx
            have hp32 := hL.get hp
            have hne : Nonempty (ExtT wr) := ExtT.some wr
            have S1 : Hid (wr.rangeAt g (32 * k + 32 * (j - 1)) (hcs p)) := (by
              have := HM.out (k + j - 1) p (by rw [c6 _ (by omega)]; exact hp)
              rwa [show 0 + 32 * (k + j - 1) = 32 * k + 32 * (j - 1) by omega] at this : wr.rangeAt g (32 * k + 32 * (j - 1)) (hcs p))
            have S2 : Hid (wr.rangeAt g (32 * k + 32 * j) (hcs x)) := (by
              have := HM.out (k + j) x (by rw [c6 _ (by omega)]; exact hx)
              rwa [show 0 + 32 * (k + j) = 32 * k + 32 * j by omega] at this : wr.rangeAt g (32 * k + 32 * j) (hcs x))
            have ix1 : ∀ wx, (Instr.indexAt 37 (.slice (some ⟨g, 32 * k, none⟩) (n - k) (cap - k)) (.int .i64 ((j : Int) - 1))).run Tryd.prog wx = .ok (.pointer (some ⟨g, 32 * k + 32 * (j - 1), none⟩)) wx := fun wx => (by
              have := indexH g (32 * k) (n - k) (cap - k) (j - 1) wx (by omega)
              rwa [show ((j - 1 : Nat) : Int) = (j : Int) - 1 by omega] at this)
            have ix2 := fun wx => indexH g (32 * k) (n - k) (cap - k) j wx hjl
            have ix3 := fun wx => indexH g 0 n cap i wx hin
            simp only [Nat.zero_add] at ix3
            have wk : IntKind.i64.wrap ((j : Int) - 1) = (j : Int) - 1 := by simp only [IntKind.wrap, IntKind.bits, IntKind.signed]; simp; omega
            have wk2 : wrap64 ((j : Int) - 1) = (j : Int) - 1 := (by unfold wrap64; omega)
            have hjlI : (j : Int) < ((n - k : Nat) : Int) := by omega
            have eqq : ∀ wx, (Op.equalIn 10000 36 (.agg (bs x)) (.agg (bs p))).run Tryd.prog wx = .ok (decide (x = p)) wx := fun wx => eq23 x p hx32 hp32 wx
            have hsn := dd_snoc L (k + j) p x (by omega) hp hx
            by_cases hxp : x = p
            · have hd : decide (x = p) = true := by simp [hxp]
              rw [hd] at eqq
              rw [if_pos hxp] at hsn
              have HC2 : Hid (Cpt L M i (k + j + 1)) := ⟨c1, c2, by rw [hsn, c3], by rw [hsn, c4], by omega, fun q hq => c6 q (by omega)⟩
              clear hd hxp hsn hC c1 c2 c3 c4 c5 c6 hp hx
              go_wp2_with fail
              refine wp_region_ext (by kernel_rfl) (by kernel_rfl) ?_
              repeat (first
                | (go_big_quiet_want; refine quiet_load_mid 36 _ rfl g (32 * k + 32 * j) rfl (bs x) _ (by rintro _ ⟨e, rfl⟩; exact e.range S2.out (hcs_pos hx32)) Tryd.underlying36 rfl (sizeH hx32) ?_; simp only [Act.put, List.setIfInBounds_toArray, List.set_cons_zero, List.set_cons_succ]; go_big_quiet_on)
                | (go_big_quiet_want; refine quiet_load_mid 36 _ rfl g (32 * k + 32 * (j - 1)) rfl (bs p) _ (by rintro _ ⟨e, rfl⟩; exact e.range S1.out (hcs_pos hp32)) Tryd.underlying36 rfl (sizeH hp32) ?_; simp only [Act.put, List.setIfInBounds_toArray, List.set_cons_zero, List.set_cons_succ]; go_big_quiet_on)
                | go_big_quiet_step (fail))
              refine wpQuiet_nil ?_
              rintro w5 ⟨⟨_, bl5⟩, rfl⟩
              have HT5 : Hid (w5.there g 0 (32 * n)) := there_below HT4.out bl5 hg4
              have HM5 : Hid (Hs w5 g 0 M) := HM.out.below bl5 hg4
              have hg5 : g < w5.heap.size := by have := bl5.size; omega
              have HB5 : Hid (∀ B, B ≤ g → Below B w w5) := (fun B hB => (HB4.out B hB).trans (bl5.mono (by omega)) : ∀ B, B ≤ g → Below B w w5)
              go_wp2
              exact ⟨⟨i, j + 1, M, by omega, by omega, hin, rfl, by go_num, HC2, HM5, HT5, HB5, hg5⟩, by simp [intOf]; omega⟩
            · have hd : decide (x = p) = false := by simp [hxp]
              rw [hd] at eqq
              rw [if_neg hxp] at hsn
              have hiM : i < M.length := by rw [c1, ← HN.out]; exact hin
              have HC2 : Hid (Cpt L (M.set i x) (i + 1) (k + j + 1)) := ⟨by rw [List.length_set, c1], c2.set i hx32, by rw [hsn, ← c3, List.take_add_one, List.getElem?_set_self hiM, List.take_set_of_le (Nat.le_refl _)]; rfl, by rw [hsn, List.length_append, c4]; rfl, by omega, fun q hq => by rw [List.getElem?_set_ne (by omega)]; exact c6 q (by omega)⟩
              clear hd hxp hsn hC c1 c3 c4 c6 hp hx
              go_wp2_with fail
              refine wp_region_ext (by kernel_rfl) (by kernel_rfl) ?_
              repeat (first
                | (go_big_quiet_want; refine quiet_load_mid 36 _ rfl g (32 * k + 32 * j) rfl (bs x) _ (by rintro _ ⟨e, rfl⟩; exact e.range S2.out (hcs_pos hx32)) Tryd.underlying36 rfl (sizeH hx32) ?_; simp only [Act.put, List.setIfInBounds_toArray, List.set_cons_zero, List.set_cons_succ]; go_big_quiet_on)
                | (go_big_quiet_want; refine quiet_load_mid 36 _ rfl g (32 * k + 32 * (j - 1)) rfl (bs p) _ (by rintro _ ⟨e, rfl⟩; exact e.range S1.out (hcs_pos hp32)) Tryd.underlying36 rfl (sizeH hp32) ?_; simp only [Act.put, List.setIfInBounds_toArray, List.set_cons_zero, List.set_cons_succ]; go_big_quiet_on)
                | go_big_quiet_step (fail))
              refine wpQuiet_nil ?_
              rintro w5 ⟨⟨_, bl5⟩, rfl⟩
              have HT5 : Hid (w5.there g 0 (32 * n)) := there_below HT4.out bl5 hg4
              have HM5 : Hid (Hs w5 g 0 M) := HM.out.below bl5 hg4
              have hg5 : g < w5.heap.size := by have := bl5.size; omega
              have HB5 : Hid (∀ B, B ≤ g → Below B w w5) := (fun B hB => (HB4.out B hB).trans (bl5.mono (by omega)) : ∀ B, B ≤ g → Below B w w5)
              have HX5 : Hid (w5.rangeAt g (32 * k + 32 * j) (hcs x)) := rangeAt_below S2.out bl5 hg4
              have HW : Hid (w5.there g (32 * i) 32) := (by have := there_part (m := 32) (i := 32 * i) HT5.out (by omega); rwa [Nat.zero_add] at this : w5.there g (32 * i) 32)
              have HM6 : Hid (Hs (w5.setCells g (32 * i) (hcs x)) g 0 (M.set i x)) := (by have := Hs.set HM5.out c2 i x hx32 hiM (there_part HT5.out (by omega)); rwa [Nat.zero_add] at this : Hs (w5.setCells g (32 * i) (hcs x)) g 0 (M.set i x))
              have hi1 : i + 1 < n := by clear wk wk2; omega
              clear c2 c5
              go_wp2_with (first
                | (refine wpList_load_mid rfl 36 _ rfl g (32 * k + 32 * j) rfl (hcs x) _ HX5.out Tryd.underlying36 rfl (by rw [hcs_len, hx32]; exact hsH) ?_; rw [hcs_arr])
                | (refine wpList_store_mid rfl 36 _ _ rfl g (32 * i) (bs x) rfl rfl (by rw [bs_size, hx32]; exact HW.out) (by rw [bs_size, hx32]; exact hsH) (bs_one _) ?_)
                | fail)
              exact ⟨⟨i + 1, j + 1, M.set i x, by omega, by omega, hi1, by go_num, by go_num, HC2, HM6, World.there_setCells HT5.out _ _ _, (fun B hB => below_setCells (HB5.out B hB) hB _ _ : ∀ B, B ≤ g → Below B w _), by rw [size_setCells]; exact hg5⟩, by simp [intOf]; omega⟩
          · obtain ⟨c1, c2, c3, c4, c5, c6⟩ := hC.out
            have hkj : k + j = n := by omega
            rw [hkj, HDD.out] at c3 c4
            have sl2 := fun wx => slice_fromH g 0 n cap i wx hin hcap
            simp only [Nat.zero_add] at sl2
            have sl3 := fun wx => slice_toH g 0 n cap i wx (by omega)
            have hcl := fun ty => run_clearH wr ty g (32 * i) (n - i) (cap - i) (by omega) (by have := there_part (m := 32 * (n - i)) (i := 32 * i) HT4.out (by omega); rwa [Nat.zero_add] at this)
            have HH : Hid (Hs (wr.setCells g (32 * i) (Builtin.zeroCells (bs z32) (n - i)).toList) g 0 (dd L)) := (by have := hs_clear (n := n - i) HM.out c2 (show i ≤ M.length by rw [c1, ← HN.out]; omega); rwa [c3] at this : Hs (wr.setCells g (32 * i) (Builtin.zeroCells (bs z32) (n - i)).toList) g 0 (dd L))
            have HLN : Hid ((dd L).length = i) := c4
            have hnl : ¬ (j : Int) < ((n - k : Nat) : Int) := by omega
            have hpo : (0 : Int) < ((n - i : Nat) : Int) := by omega
            clear c1 c2 c3 c4 c5 c6 hC HM
            generalize (Builtin.zeroCells (bs z32) (n - i)).toList = vs at *
            go_wp2
            go_ret
            exact ⟨by rw [HLN.out]; rfl, HH.out, fun B hB => below_setCells (HB4.out B hB) hB _ _, by rw [size_setCells]; exact hg4⟩
      · have hd : decide (x = p) = false := by simp [hxp]
        rw [hd] at eqq
        rw [if_neg hxp] at hsn
        have HK : Hid (dd (L.take (k + 1)) = L.take (k + 1)) := (by rw [hsn, hdd.out, List.take_add_one, hx]; rfl : dd (L.take (k + 1)) = L.take (k + 1))
        clear hd hxp hsn
        go_wp2_with fail
        refine wp_region_ext (by kernel_rfl) (by kernel_rfl) ?_
        repeat (first
          | (go_big_quiet_want; refine quiet_load_mid 36 _ rfl g (32 * k) rfl (bs x) _ (by rintro _ ⟨e, rfl⟩; exact e.range S2.out (hcs_pos hx32)) Tryd.underlying36 rfl (sizeH hx32) ?_; simp only [Act.put, List.setIfInBounds_toArray, List.set_cons_zero, List.set_cons_succ]; go_big_quiet_on)
          | (go_big_quiet_want; refine quiet_load_mid 36 _ rfl g (32 * (k - 1)) rfl (bs p) _ (by rintro _ ⟨e, rfl⟩; exact e.range S1.out (hcs_pos hp32)) Tryd.underlying36 rfl (sizeH hp32) ?_; simp only [Act.put, List.setIfInBounds_toArray, List.set_cons_zero, List.set_cons_succ]; go_big_quiet_on)
          | go_big_quiet_step (fail))
        refine wpQuiet_nil ?_
        rintro w3 ⟨⟨_, bl3⟩, rfl⟩
        go_wp2
        exact ⟨⟨k + 1, by omega, by omega, by go_num, HK, bel.trans (bl3.mono bel.size)⟩, by simp [intOf]; omega⟩
    · obtain rfl : k = n := by omega
      have HE : Hid (dd L = L) := (by have h := hdd.out; rw [HDD.out, HN.out, List.take_length] at h; exact h : dd L = L)
      have HEL : Hid (dd L = L) := HE
      have hll : (dd L).length = k := by rw [HE.out, ← HN.out]
      go_wp2
      go_ret
      refine ⟨by rw [hll]; rfl, by rw [HE.out]; exact HS.out.below bel hg, fun B hB => bel.mono (by omega), by have := bel.size; omega⟩
end Go.Proofs.YtpalbfkkegaliabDoor
