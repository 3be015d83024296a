import Derived.Test.YtpalbfkkegaliaaRl
import Derived.Test.YtpalbfkkegaliaaSo
import Derived.Test.YtpalbfkkegaliaaCl
namespace Go.Proofs.Ytpalbfkkegaliaa
open Go.RowKit
set_option linter.unusedVariables false
set_option linter.unusedSimpArgs false

/-- Those ahead of a place. -/
def Ahead (L : List (List UInt8)) (k : Nat) (x : List UInt8) : Prop := ∃ i, i < k ∧ L[i]? = some x
theorem lead_step {L : List (List UInt8)} (hL : All32 L) (hr : Rises L) {k m : Nat} {p x : List UInt8} (hk : 1 ≤ k) (hp : L[k - 1]? = some p) (hx : L[k]? = some x) (h : IsLead (Ahead L k) m) :
    IsLead (Ahead L (k + 1)) (upL p x m) := by
  have h32 : ∀ {i : Nat} {y : List UInt8}, L[i]? = some y → y.length = 32 := fun e => hL.get e
  have pa : Ahead L k p := ⟨k - 1, by omega, hp⟩
  have mono : ∀ {y}, Ahead L k y → Ahead L (k + 1) y := fun ⟨i, hi, e⟩ => ⟨i, by omega, e⟩
  -- what is ahead against x
  have key : ∀ a, Ahead L k a → a ≠ x → cm a x < upL p x m := by
    rintro a ⟨i, hi, e⟩ hax
    have h1 : ¬ cmpL p a < 0 := by
      by_cases e1 : i = k - 1
      · subst e1; rw [e] at hp; cases hp; rw [cmpL_same]; omega
      · exact hr i (k - 1) a p e hp (by omega)
    have h2 : ¬ cmpL x p < 0 := hr (k - 1) k p x hp hx (by omega)
    have h3 := cm_between (h32 e) (h32 hp) (h32 hx) h1 h2
    unfold upL
    split
    · rename_i hpx
      have := h.1 a p ⟨i, hi, e⟩ pa (fun e' => hax (e'.trans hpx))
      rw [hpx] at this
      exact this
    · omega
  have ge : m ≤ upL p x m := by unfold upL; split <;> omega
  refine ⟨?_, ?_⟩
  · rintro a b ⟨i, hi, ea⟩ ⟨j, hj, eb⟩ hab
    by_cases h1 : i = k
    · by_cases h2 : j = k
      · subst h1; subst h2; rw [ea] at eb; exact absurd (Option.some.inj eb) hab
      · subst h1
        rw [hx] at ea
        cases ea
        rw [cm_comm]
        exact key b ⟨j, by omega, eb⟩ (fun e => hab e.symm)
    · by_cases h2 : j = k
      · subst h2
        rw [hx] at eb
        cases eb
        exact key a ⟨i, by omega, ea⟩ hab
      · have := h.1 a b ⟨i, by omega, ea⟩ ⟨j, by omega, eb⟩ hab
        omega
  · unfold upL
    split
    · rcases h.2 with h2 | ⟨a, b, sa, sb, h3⟩
      · exact .inl h2
      · exact .inr ⟨a, b, mono sa, mono sb, h3⟩
    · rename_i hpx
      by_cases hm : m ≤ cm p x + 1
      · exact .inr ⟨p, x, mono pa, ⟨k, by omega, hx⟩, hpx, by omega⟩
      · rcases h.2 with h2 | ⟨a, b, sa, sb, h3, h4⟩
        · omega
        · exact .inr ⟨a, b, mono sa, mono sb, h3, by omega⟩
theorem lead_one (L : List (List UInt8)) : IsLead (Ahead L 1) 0 := by
  refine ⟨?_, .inl rfl⟩
  rintro a b ⟨i, hi, ea⟩ ⟨j, hj, eb⟩ hab
  obtain rfl : i = 0 := by omega
  obtain rfl : j = 0 := by omega
  rw [ea] at eb
  exact absurd (Option.some.inj eb) hab
theorem lead_end {L M : List (List UInt8)} {k n : Nat} (hk : M.length ≤ k) (hp : M.Perm L) (h : IsLead (Ahead M k) n) : IsLead (fun x => x ∈ L) n := by
  have e : ∀ x, Ahead M k x ↔ x ∈ L := fun x => by
    rw [← hp.mem_iff]
    constructor
    · rintro ⟨i, _, e⟩; exact List.mem_of_getElem? e
    · intro hx
      obtain ⟨i, hi⟩ := List.mem_iff_getElem?.1 hx
      exact ⟨i, by have := (List.getElem?_eq_some_iff.1 hi).1; omega, hi⟩
  refine ⟨fun a b ha hb hab => h.1 a b ((e a).2 ha) ((e b).2 hb) hab, ?_⟩
  rcases h.2 with h2 | ⟨a, b, sa, sb, h3⟩
  · exact .inl h2
  · exact .inr ⟨a, b, (e a).1 sa, (e b).1 sb, h3⟩
theorem max_cast (m c : Nat) : max (m : Int) ((c : Int) + 1) = ((max m (c + 1) : Nat) : Int) := by omega
theorem upL_same {p x : List UInt8} {m : Nat} (h : p = x) : upL p x m = m := by unfold upL; rw [if_pos h]
theorem upL_not {p x : List UInt8} {m : Nat} (h : ¬ p = x) : upL p x m = max m (cm p x + 1) := by unfold upL; rw [if_neg h]

set_option maxHeartbeats 1000000 in
/-- Of no hashes. -/
theorem lead_none (w : World) : Calls Try.prog 8 #[.slice none 0 0] w fun e w' => (∃ n : Nat, e = .returned (.int .i64 n) ∧ IsLead (fun x => x ∈ ([] : List (List UInt8))) n) ∧ Below w.heap.size w w' := by
  have HC : Hid (∀ wx, Calls Try.prog 17 #[.slice none 0 0] wx fun e w' => e = .returned (.slice none 0 0) ∧ w' = wx) := fun wx => cloneH_nil wx
  have HS : Hid (∀ wx, Calls Try.prog 18 #[.slice none 0 0, .func (.func 19) #[] #[]] wx fun e w' => e = .returned (.tuple #[]) ∧ w' = wx) := fun wx => AnyF.slices_SortFunc_none sortLays none 0 _ wx
  go_enter Try.func8, Try.ntmps8
  go_wp2_with (first | (go_at_call 17; refine (HC.out _).mono ?_; rintro e w' ⟨rfl, rfl⟩) | (go_at_call 18; refine (HS.out _).mono ?_; rintro e w' ⟨rfl, rfl⟩) | fail)
  go_loopw [4, 5] (fun c i wr => c = .int .i64 0 ∧ i = .int .i64 1 ∧ wr = w') (fun _ _ _ => 0)
  case atStart => exact ⟨rfl, rfl, rfl⟩
  case round =>
    obtain ⟨rfl, rfl, rfl⟩ := hrel
    go_wp2
    go_ret
    exact ⟨⟨0, rfl, ⟨fun a b h => by simp at h, .inl rfl⟩⟩, Below.refl _ _⟩

set_option maxRecDepth 100000 in
set_option maxHeartbeats 2000000 in
theorem lead_any (a : Addr) (L : List (List UInt8)) (cap : Nat) (w : World) (hL : All32 L) (hb : L.length ≤ 4398046511104) (hl : Hl w (some a) L) :
    Calls Try.prog 8 #[.slice (some a) L.length cap] w fun e w' => (∃ n : Nat, e = .returned (.int .i64 n) ∧ IsLead (fun x => x ∈ L) n) ∧ Below w.heap.size w w' := by
  have HC : Hid (Calls Try.prog 17 #[.slice (some a) L.length cap] w fun e w' => ∃ g cap', e = .returned (.slice (some ⟨g, 0, none⟩) L.length cap') ∧ OwnH w' w.heap.size (.slice (some ⟨g, 0, none⟩) L.length cap') L ∧ Below w.heap.size w w') := cloneH_any a L cap w hL hb hl
  obtain ⟨n, hn⟩ : ∃ n, n = L.length := ⟨_, rfl⟩
  rw [← hn] at hb HC ⊢
  have HN : Hid (n = L.length) := hn
  clear hn hl
  go_enter Try.func8, Try.ntmps8
  go_wp2_with fail
  refine HC.out.mono ?_
  rintro e w1 ⟨g, cap', rfl, own1, be1⟩
  clear HC
  obtain ⟨hgB, hg1, hs1, ht1⟩ : w.heap.size ≤ g ∧ g < w1.heap.size ∧ Hs w1 g 0 L ∧ w1.there g 0 (32 * L.length) := by
    rcases own1.open with ⟨h1, _⟩ | ⟨g', c', h1, _, h2, h3, h4, h5⟩
    · cases h1
    · cases h1; exact ⟨h2, h3, h4, h5⟩
  have HS : Hid (Calls Try.prog 18 #[.slice (some ⟨g, 0, none⟩) n cap', .func (.func 19) #[] #[]] w1 fun e w' => e = .returned (.tuple #[]) ∧
      ∃ L' : List (List UInt8), L'.Perm L ∧ Rises L' ∧ Hs w' g 0 L' ∧ w'.there g 0 (32 * L.length) ∧ ∀ B, B ≤ g → Below B w1 w') := (by
    rw [HN.out]
    exact sortH_any g L cap' w1 hL (by rw [← HN.out]; exact hb) hg1 hs1 ht1)
  clear own1 hs1 ht1
  go_wp2_with fail
  refine HS.out.mono ?_
  rintro e w2 ⟨rfl, M, hpm, hri, hs2, ht2, hbel⟩
  have be2 : Below w.heap.size w w2 := be1.trans (hbel _ hgB)
  have hsz2 : w1.heap.size ≤ w2.heap.size := (hbel _ hgB).size
  have hML : Hid (M.length = n) := (by rw [hpm.length_eq, HN.out] : M.length = n)
  have HM32 : Hid (All32 M) := fun x hx => hL x (hpm.mem_iff.1 hx)
  have HP : Hid (M.Perm L) := hpm
  have HRI : Hid (Rises M) := hri
  have HS2 : Hid (Hs w2 g 0 M) := hs2
  have hg2 : g < w2.heap.size := by omega
  clear HS hpm hri hs2 ht2 hbel be1 hsz2 hg1
  go_wp2
  go_loopw [4, 5] (fun c i wr => ∃ m k : Nat, 1 ≤ k ∧ (k ≤ n ∨ k = 1) ∧ m ≤ 64 ∧ i = .int .i64 k ∧ c = .int .i64 m ∧ Hid (IsLead (Ahead M k) m) ∧ Below w2.heap.size w2 wr) (fun _ i _ => n - (intOf i).toNat)
  case atStart => exact ⟨0, 1, by omega, by omega, by omega, rfl, rfl, lead_one M, Below.refl _ _⟩
  case round =>
    obtain ⟨m, k, hk1, hkn', hm64, rfl, rfl, hld, bel⟩ := hrel
    by_cases hkn : k < n
    · have hkM : k < M.length := by rw [hML.out]; exact hkn
      obtain ⟨x, hx⟩ : ∃ x, M[k]? = some x := ⟨_, List.getElem?_eq_getElem hkM⟩
      obtain ⟨p, hp⟩ : ∃ p, M[k - 1]? = some p := ⟨_, List.getElem?_eq_getElem (by omega)⟩
      have hx32 := HM32.out.get hx
      have hp32 := HM32.out.get hp
      have hne : Nonempty (ExtT wr) := ExtT.some wr
      have S1 : Hid (wr.rangeAt g (32 * (k - 1)) (hcs p)) := (by have := rangeAt_below (HS2.out (k - 1) p hp) bel hg2; rwa [Nat.zero_add] at this : wr.rangeAt g (32 * (k - 1)) (hcs p))
      have S2 : Hid (wr.rangeAt g (32 * k) (hcs x)) := (by have := rangeAt_below (HS2.out k x hx) bel hg2; rwa [Nat.zero_add] at this : wr.rangeAt g (32 * k) (hcs x))
      have ix1 : ∀ wx, (Instr.indexAt 22 (.slice (some ⟨g, 0, none⟩) n cap') (.int .i64 ((k : Int) - 1))).run Try.prog wx = .ok (.pointer (some ⟨g, 32 * (k - 1), none⟩)) wx := fun wx => (by
        have := indexH g 0 n cap' (k - 1) wx (by omega)
        rwa [Nat.zero_add, show ((k - 1 : Nat) : Int) = (k : Int) - 1 by omega] at this)
      have ix2 := fun wx => indexH g 0 n cap' k wx hkn
      simp only [Nat.zero_add] at ix2
      have wk : IntKind.i64.wrap ((k : Int) - 1) = (k : Int) - 1 := by simp only [IntKind.wrap, IntKind.bits, IntKind.signed]; simp; omega
      have wk2 : wrap64 ((k : Int) - 1) = (k : Int) - 1 := (by unfold wrap64; omega)
      have HC : Hid (∀ wx, Calls Try.prog 20 #[.agg (bs p), .agg (bs x)] wx fun e w' => e = .returned (.int .i64 (cm p x)) ∧ Below wx.heap.size wx w') := fun wx => common_any p x hp32 hx32 wx
      have HK : Hid (IsLead (Ahead M (k + 1)) (upL p x m)) := lead_step HM32.out HRI.out hk1 hp hx hld.out
      have hup : upL p x m ≤ 64 := upL_le hp32 hx32 hm64
      have eqq : ∀ wx, (Op.equalIn 10000 25 (.agg (bs p)) (.agg (bs x))).run Try.prog wx = .ok (decide (p = x)) wx := fun wx => eq23 p x hp32 hx32 wx
      clear hx hp hld
      by_cases hpx : p = x
      · have hd : decide (p = x) = true := by simp [hpx]
        rw [hd] at eqq
        rw [upL_same hpx] at HK
        clear hd hpx hup
        go_wp2_with fail
        refine wp_region_ext (by kernel_rfl) (by kernel_rfl) ?_
        repeat (first
          | (go_big_quiet_want; refine quiet_load_mid 25 _ rfl g (32 * (k - 1)) rfl (bs p) _ (by rintro _ ⟨e, rfl⟩; exact e.range S1.out (hcs_pos hp32)) Try.underlying25 rfl (sizeH hp32) ?_; simp [Act.put]; go_big_quiet_on)
          | (go_big_quiet_want; refine quiet_load_mid 25 _ rfl g (32 * k) rfl (bs x) _ (by rintro _ ⟨e, rfl⟩; exact e.range S2.out (hcs_pos hx32)) Try.underlying25 rfl (sizeH hx32) ?_; simp [Act.put]; go_big_quiet_on)
          | go_big_quiet_step (first | (go_at_call 20; exact ext_of (HC.out _)) | fail))
        refine wpQuiet_nil ?_
        rintro w3 ⟨⟨_, bl3⟩, rfl⟩
        go_wp2
        exact ⟨⟨m, k + 1, by omega, by omega, hm64, by go_num, rfl, HK, bel.trans (bl3.mono bel.size)⟩, by simp [intOf]; omega⟩
      · have hd : decide (p = x) = false := by simp [hpx]
        rw [hd] at eqq
        rw [upL_not hpx] at HK hup
        have hc64 : cm p x ≤ 64 := cm_le p x
        clear hd hpx
        generalize cm p x = c at *
        go_wp2_with fail
        refine wp_region_ext (by kernel_rfl) (by kernel_rfl) ?_
        repeat (first
          | (go_big_quiet_want; refine quiet_load_mid 25 _ rfl g (32 * (k - 1)) rfl (bs p) _ (by rintro _ ⟨e, rfl⟩; exact e.range S1.out (hcs_pos hp32)) Try.underlying25 rfl (sizeH hp32) ?_; simp [Act.put]; go_big_quiet_on)
          | (go_big_quiet_want; refine quiet_load_mid 25 _ rfl g (32 * k) rfl (bs x) _ (by rintro _ ⟨e, rfl⟩; exact e.range S2.out (hcs_pos hx32)) Try.underlying25 rfl (sizeH hx32) ?_; simp [Act.put]; go_big_quiet_on)
          | go_big_quiet_step (first | (go_at_call 20; exact ext_of (HC.out _)) | fail))
        refine wpQuiet_nil ?_
        rintro w3 ⟨⟨_, bl3⟩, rfl⟩
        go_wp2_with fail
        have bel3 : Below w2.heap.size w2 w3 := bel.trans (bl3.mono bel.size)
        have S3 : Hid (w3.rangeAt g (32 * (k - 1)) (hcs p)) := rangeAt_below S1.out bl3 (by have := bel.size; omega)
        have S4 : Hid (w3.rangeAt g (32 * k) (hcs x)) := rangeAt_below S2.out bl3 (by have := bel.size; omega)
        clear hne
        have hne : Nonempty (ExtT w3) := ExtT.some w3
        have wc : IntKind.i64.wrap ((c : Int) + 1) = (c : Int) + 1 := by simp only [IntKind.wrap, IntKind.bits, IntKind.signed]; simp; omega
        have wc2 : wrap64 ((c : Int) + 1) = (c : Int) + 1 := by unfold wrap64; omega
        refine wp_region_ext (by kernel_rfl) (by kernel_rfl) ?_
        repeat (first
          | (go_big_quiet_want; refine quiet_load_mid 25 _ rfl g (32 * (k - 1)) rfl (bs p) _ (by rintro _ ⟨e, rfl⟩; exact e.range S3.out (hcs_pos hp32)) Try.underlying25 rfl (sizeH hp32) ?_; simp [Act.put]; go_big_quiet_on)
          | (go_big_quiet_want; refine quiet_load_mid 25 _ rfl g (32 * k) rfl (bs x) _ (by rintro _ ⟨e, rfl⟩; exact e.range S4.out (hcs_pos hx32)) Try.underlying25 rfl (sizeH hx32) ?_; simp [Act.put]; go_big_quiet_on)
          | go_big_quiet_step (first | (go_at_call 20; exact ext_of (HC.out _)) | fail))
        refine wpQuiet_nil ?_
        rintro w4 ⟨⟨_, bl4⟩, rfl⟩
        rw [max_cast]
        clear wk wk2 wc wc2
        generalize max m (c + 1) = mx at *
        go_wp2
        exact ⟨⟨mx, k + 1, by omega, by omega, hup, by go_num, rfl, HK, bel3.trans (bl4.mono bel3.size)⟩, by simp [intOf]; omega⟩
    · have HE : Hid (IsLead (fun x => x ∈ L) m) := lead_end (by rw [hML.out]; omega) HP.out hld.out
      go_wp2
      go_ret
      exact ⟨⟨m, rfl, HE.out⟩, be2.trans (bel.mono be2.size)⟩
end Go.Proofs.Ytpalbfkkegaliaa
