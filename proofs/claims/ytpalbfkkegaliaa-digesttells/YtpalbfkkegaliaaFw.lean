import Derived.Test.YtpalbfkkegaliaaLe
import Derived.Test.YtpalbfkkegaliaaHi
import Derived.Test.YtpalbfkkegaliaaHk
import Derived.Test.YtpalbfkkegaliaaRfi
namespace Go.Proofs.Ytpalbfkkegaliaa
open Go.RowKit
set_option linter.unusedVariables false
set_option linter.unusedSimpArgs false

theorem findG_len (s : ByteArray) : ∀ (L : List (List UInt8)) (st : Option (List UInt8)), (fndH st).length = 32 → All32 L → (findG s st L).1.length = 32
  | [], none, h, _ => rfl
  | [], some f, h, _ => h
  | x :: r, none, h, hL => by
    have hx := hL x (by simp)
    have hr : All32 r := fun y hy => hL y (by simp [hy])
    unfold findG
    split
    · exact findG_len s r (some x) hx hr
    · exact findG_len s r none h hr
  | x :: r, some f, h, hL => by
    have hx := hL x (by simp)
    have hr : All32 r := fun y hy => hL y (by simp [hy])
    unfold findG
    split
    · split
      · exact findG_len s r (some x) hx hr
      · rfl
    · exact findG_len s r (some f) h hr
theorem findA_len (s : ByteArray) (L : List (List UInt8)) (hL : All32 L) : (findA s L).1.length = 32 := by
  unfold findA
  split
  · exact findG_len s L none rfl hL
  · rfl

set_option maxRecDepth 100000 in
set_option maxHeartbeats 2000000 in
theorem finds_any (s : ByteArray) (hs : s.size ≤ maxLen) (a : Option Addr) (L : List (List UInt8)) (cap : Nat) (w : World) (hL : All32 L) (hb : L.length ≤ 4398046511104) (hl : Hl w a L) :
    Calls Try.prog 3 #[.string s, .slice a L.length cap] w fun e w' => e = .returned (.bool true) ∧ Below w.heap.size w w' := by
  obtain ⟨n, hn⟩ : ∃ n, n = L.length := ⟨_, rfl⟩
  have H1 := handH_any a L cap w hL hb hl
  rw [← hn] at H1 ⊢
  have HN : Hid (n = L.length) := hn
  have HH : Hid (Calls Try.prog 5 #[.slice a n cap] w fun e w' => e = .returned (.slice (some ⟨w.heap.size, 0, none⟩) n (n + 9)) ∧ Below w.heap.size w w' ∧ w.heap.size < w'.heap.size ∧
      Hs w' w.heap.size 0 (L ++ marks) ∧ w'.there w.heap.size 0 (32 * (n + 9))) := H1
  have HL : Hid (Hl w a L) := hl
  have HB : Hid (L.length ≤ 4398046511104) := hb
  have HS : Hid (s.size ≤ maxLen) := hs
  clear hn H1 hl hb hs
  go_enter Try.func3, Try.ntmps3
  go_wp2_with fail
  refine HH.out.mono ?_
  rintro e w1 ⟨rfl, be1, hg1, hs1, ht1⟩
  clear HH
  have hx32 := findA_len s L hL
  have HF : Hid (∀ wx, Hs wx w.heap.size 0 L → Calls Try.prog 6 #[.string s, .slice (some ⟨w.heap.size, 0, none⟩) n (n + 9)] wx fun e w' => e = .returned (.tuple #[.agg (bs (findA s L).1), .int .i64 (findA s L).2]) ∧ Below wx.heap.size wx w') := (fun wx h => by
    rw [HN.out]
    exact find_any s HS.out (some ⟨w.heap.size, 0, none⟩) L (L.length + 9) wx hL HB.out (.inr ⟨_, _, rfl, h⟩))
  have HR : Hid (∀ wx, Hl wx a L → Calls Try.prog 7 #[.string s, .slice a n cap] wx fun e w' => e = .returned (.tuple #[.agg (bs (findA s L).1), .int .i64 (findA s L).2]) ∧ Below wx.heap.size wx w') := (fun wx h => by
    rw [HN.out]
    exact rfind_any s HS.out a L cap wx hL HB.out h)
  have HLd : Hid (∀ wx, Hs wx w.heap.size 0 L → Calls Try.prog 8 #[.slice (some ⟨w.heap.size, 0, none⟩) n (n + 9)] wx fun e w' => (∃ n : Nat, e = .returned (.int .i64 n) ∧ IsLead (fun x => x ∈ L) n) ∧ Below wx.heap.size wx w') := (fun wx h => by
    rw [HN.out]
    exact lead_any ⟨w.heap.size, 0, none⟩ L (L.length + 9) wx hL HB.out (.inr ⟨_, _, rfl, h⟩))
  have HRL : Hid (∀ wx, Hl wx a L → Calls Try.prog 9 #[.slice a n cap] wx fun e w' => (∃ n : Nat, e = .returned (.int .i64 n) ∧ IsLead (fun x => x ∈ L) n) ∧ Below wx.heap.size wx w') := (fun wx h => by
    rw [HN.out]
    exact rlead_any a L cap wx hL HB.out h)
  have HK : Hid (∀ wx, Hs wx w.heap.size 0 (L ++ marks) → Hl wx a L → Calls Try.prog 10 #[.slice (some ⟨w.heap.size, 0, none⟩) n (n + 9), .slice a n cap] wx fun e w' => e = .returned (.bool true) ∧ ∃ m, w' = wx.drewN m) := (fun wx h h2 => by
    rw [HN.out]
    exact keptH_any w.heap.size a L cap wx hL HB.out h h2)
  have eqq := fun wx => eq23 (findA s L).1 (findA s L).1 hx32 hx32 wx
  simp only [decide_true] at eqq
  generalize (findA s L).1 = x at *
  generalize (findA s L).2 = er at *
  have HS1 : Hid (Hs w1 w.heap.size 0 (L ++ marks)) := hs1
  have hzs : (bs z32).size = 32 := by rw [bs_size]; rfl
  clear hs1 ht1
  obtain ⟨g, hg⟩ : ∃ g, g = w.heap.size := ⟨_, rfl⟩
  have hgw : w.heap.size ≤ g := by omega
  rw [← hg] at HF HLd HK HS1 hg1 ⊢
  clear hg
  go_wp2_with fail
  refine (HF.out _ (hs_app HS1.out)).mono ?_
  rintro e w2 ⟨rfl, be2⟩
  have HS2 : Hid (Hs w2 g 0 (L ++ marks)) := HS1.out.below be2 hg1
  have bl2 : Below w.heap.size w w2 := be1.trans (be2.mono be1.size)
  have hg2 : g < w2.heap.size := by have := be2.size; omega
  clear HF
  go_wp2_with (first
    | (refine wpList_alloc_row rfl 25 rfl (bs z32) (hz23 _) ?_)
    | (refine wpList_store_row rfl 25 _ _ rfl w2.heap.size (bs x) rfl rfl 25 (bs z32) (heap_alloc_new _ _) (by rw [bs_size, hx32]; exact hs23) (by rw [hzs, bs_size, hx32]) (bs_one _) ?_; rw [World.setRow_alloc_new])
    | fail)
  have c3 : (w2.alloc (.cells (bs x) 25)).heap[w2.heap.size]? = some (.cells (bs x) 25 (0, 0)) := heap_alloc_new _ _
  have b3 : Below w2.heap.size w2 (w2.alloc (.cells (bs x) 25)) := (Below.refl _ _).alloc (Nat.le_refl _) _
  have bl3 : Below w.heap.size w (w2.alloc (.cells (bs x) 25)) := bl2.trans (b3.mono bl2.size)
  have HS3 : Hid (Hs (w2.alloc (.cells (bs x) 25)) g 0 (L ++ marks)) := HS2.out.below b3 hg2
  have z3 : w2.heap.size < (w2.alloc (.cells (bs x) 25)).heap.size := by simp
  generalize w2.heap.size = g2 at *
  generalize (w2.alloc (.cells (bs x) 25)) = w3 at *
  refine (HR.out _ (HL.out.below hL bl3)).mono ?_
  rintro e w4 ⟨rfl, be4⟩
  have bl4 : Below w.heap.size w w4 := bl3.trans (be4.mono bl3.size)
  have HS4 : Hid (Hs w4 g 0 (L ++ marks)) := HS3.out.below be4 (by omega)
  have c4 : w4.heap[g2]? = some (.cells (bs x) 25 (0, 0)) := by rw [be4.block _ z3]; exact c3
  have z4 : g2 < w4.heap.size := (Array.getElem?_eq_some_iff.1 c4).1
  clear HR HS3 c3
  go_wp2_with (first
    | (refine wpList_alloc_row rfl 25 rfl (bs z32) (hz23 _) ?_)
    | (refine wpList_store_row rfl 25 _ _ rfl w4.heap.size (bs x) rfl rfl 25 (bs z32) (heap_alloc_new _ _) (by rw [bs_size, hx32]; exact hs23) (by rw [hzs, bs_size, hx32]) (bs_one _) ?_; rw [World.setRow_alloc_new])
    | (refine wpList_load_arr rfl 25 (.tmp 6) rfl g2 rfl 25 (bs x) (0, 0) _ (by rw [Below.heap_alloc _ _ _ z4]; exact c4) Try.underlying25 rfl (by rw [bs_size, hx32]; exact hs23) ?_)
    | (refine wpList_load_arr rfl 25 (.tmp 8) rfl w4.heap.size rfl 25 (bs x) (0, 0) _ (heap_alloc_new _ _) Try.underlying25 rfl (by rw [bs_size, hx32]; exact hs23) ?_)
    | fail)
  have b5 : Below w4.heap.size w4 (w4.alloc (.cells (bs x) 25)) := (Below.refl _ _).alloc (Nat.le_refl _) _
  have bl5 : Below w.heap.size w (w4.alloc (.cells (bs x) 25)) := bl4.trans (b5.mono bl4.size)
  have HS5 : Hid (Hs (w4.alloc (.cells (bs x) 25)) g 0 (L ++ marks)) := HS4.out.below b5 (by omega)
  have hg5 : g < (w4.alloc (.cells (bs x) 25)).heap.size := by simp; omega
  generalize (w4.alloc (.cells (bs x) 25)) = w5 at *
  refine (HLd.out _ (hs_app HS5.out)).mono ?_
  rintro e w6 ⟨⟨m, rfl, hm⟩, be6⟩
  have bl6 : Below w.heap.size w w6 := bl5.trans (be6.mono bl5.size)
  have HS6 : Hid (Hs w6 g 0 (L ++ marks)) := HS5.out.below be6 hg5
  have hg6 : g < w6.heap.size := by have := be6.size; omega
  have HM : Hid (IsLead (fun x => x ∈ L) m) := hm
  clear HLd hm HS5
  go_wp2_with fail
  refine (HRL.out _ (HL.out.below hL bl6)).mono ?_
  rintro e w7 ⟨⟨m', rfl, hm⟩, be7⟩
  have bl7 : Below w.heap.size w w7 := bl6.trans (be7.mono bl6.size)
  have HS7 : Hid (Hs w7 g 0 (L ++ marks)) := HS6.out.below be7 hg6
  obtain rfl : m' = m := hm.unique HM.out
  clear HRL hm HM HS6
  go_wp2_with fail
  refine (HK.out _ HS7.out (HL.out.below hL bl7)).mono ?_
  rintro e w8 ⟨rfl, q, rfl⟩
  go_wp2
  go_ret
  exact ⟨rfl, below_drewN bl7 _⟩
end Go.Proofs.Ytpalbfkkegaliaa
