import Derived.Test.YtpalbfkkegaliabDoorTh7
import Derived.Test.YtpalbfkkegaliabDoorFi
import Derived.Test.YtpalbfkkegaliabDoorBe
import Derived.Test.YtpalbfkkegaliabDoorXSealW
import Derived.Test.YtpalbfkkegaliabDoorXOpen
namespace Go.Proofs.YtpalbfkkegaliabDoor
open Go.RowKit
set_option linter.unusedVariables false
set_option linter.unusedSimpArgs false

/-- One pair more. -/
def upL (x y : List UInt8) (n : Nat) : Nat := if x = y then n else max n (cm x y + 1)
theorem upL_le {x y : List UInt8} (hx : x.length = 32) (hy : y.length = 32) {n : Nat} (h : n ≤ 64) : upL x y n ≤ 64 := by
  unfold upL
  split
  · exact h
  · rename_i hxy
    have := cm_lt hx hy hxy
    omega
theorem good_all {s : ByteArray} (h : s.size ≤ 64) (hd : AllDg s) : good s.data.toList = s.size :=
  goodOf_eq 64 _ s.size h (by rw [len_str]; exact Nat.le_refl _) hd (.inr (.inl (by rw [len_str])))
/-- Those ahead of a place. -/
def Ahead (L : List (List UInt8)) (k : Nat) (x : List UInt8) : Prop := ∃ i, i < k ∧ L[i]? = some x
theorem lead_step {L : List (List UInt8)} (hL : All32 L) (hr : Rises L) {k m : Nat} {p x : List UInt8} (hk : 1 ≤ k) (hp : L[k - 1]? = some p) (hx : L[k]? = some x) (h : IsLead (Ahead L k) m) :
    IsLead (Ahead L (k + 1)) (upL p x m) := by
  have h32 : ∀ {i : Nat} {y : List UInt8}, L[i]? = some y → y.length = 32 := fun e => hL.get e
  have pa : Ahead L k p := ⟨k - 1, by omega, hp⟩
  have mono : ∀ {y}, Ahead L k y → Ahead L (k + 1) y := fun ⟨i, hi, e⟩ => ⟨i, by omega, e⟩
  -- what is ahead against x
  have key : ∀ a, Ahead L k a → a ≠ x → cm a x < upL p x m := by
    rintro a ⟨i, hi, e⟩ hax
    have h1 : ¬ cmpL p a < 0 := by
      by_cases e1 : i = k - 1
      · subst e1; rw [e] at hp; cases hp; rw [cmpL_same]; omega
      · exact hr i (k - 1) a p e hp (by omega)
    have h2 : ¬ cmpL x p < 0 := hr (k - 1) k p x hp hx (by omega)
    have h3 := cm_between (h32 e) (h32 hp) (h32 hx) h1 h2
    unfold upL
    split
    · rename_i hpx
      have := h.1 a p ⟨i, hi, e⟩ pa (fun e' => hax (e'.trans hpx))
      rw [hpx] at this
      exact this
    · omega
  have ge : m ≤ upL p x m := by unfold upL; split <;> omega
  refine ⟨?_, ?_⟩
  · rintro a b ⟨i, hi, ea⟩ ⟨j, hj, eb⟩ hab
    by_cases h1 : i = k
    · by_cases h2 : j = k
      · subst h1; subst h2; rw [ea] at eb; exact absurd (Option.some.inj eb) hab
      · subst h1
        rw [hx] at ea
        cases ea
        rw [cm_comm]
        exact key b ⟨j, by omega, eb⟩ (fun e => hab e.symm)
    · by_cases h2 : j = k
      · subst h2
        rw [hx] at eb
        cases eb
        exact key a ⟨i, by omega, ea⟩ hab
      · have := h.1 a b ⟨i, by omega, ea⟩ ⟨j, by omega, eb⟩ hab
        omega
  · unfold upL
    split
    · rcases h.2 with h2 | ⟨a, b, sa, sb, h3⟩
      · exact .inl h2
      · exact .inr ⟨a, b, mono sa, mono sb, h3⟩
    · rename_i hpx
      by_cases hm : m ≤ cm p x + 1
      · exact .inr ⟨p, x, mono pa, ⟨k, by omega, hx⟩, hpx, by omega⟩
      · rcases h.2 with h2 | ⟨a, b, sa, sb, h3, h4⟩
        · omega
        · exact .inr ⟨a, b, mono sa, mono sb, h3, by omega⟩
theorem lead_one (L : List (List UInt8)) : IsLead (Ahead L 1) 0 := by
  refine ⟨?_, .inl rfl⟩
  rintro a b ⟨i, hi, ea⟩ ⟨j, hj, eb⟩ hab
  obtain rfl : i = 0 := by omega
  obtain rfl : j = 0 := by omega
  rw [ea] at eb
  exact absurd (Option.some.inj eb) hab
theorem lead_end {L M : List (List UInt8)} {k n : Nat} (hk : M.length ≤ k) (hp : M.Perm L) (h : IsLead (Ahead M k) n) : IsLead (fun x => x ∈ L) n := by
  have e : ∀ x, Ahead M k x ↔ x ∈ L := fun x => by
    rw [← hp.mem_iff]
    constructor
    · rintro ⟨i, _, e⟩; exact List.mem_of_getElem? e
    · intro hx
      obtain ⟨i, hi⟩ := List.mem_iff_getElem?.1 hx
      exact ⟨i, by have := (List.getElem?_eq_some_iff.1 hi).1; omega, hi⟩
  refine ⟨fun a b ha hb hab => h.1 a b ((e a).2 ha) ((e b).2 hb) hab, ?_⟩
  rcases h.2 with h2 | ⟨a, b, sa, sb, h3⟩
  · exact .inl h2
  · exact .inr ⟨a, b, (e a).1 sa, (e b).1 sb, h3⟩
theorem max_cast (m c : Nat) : max (m : Int) ((c : Int) + 1) = ((max m (c + 1) : Nat) : Int) := by omega
theorem upL_same {p x : List UInt8} {m : Nat} (h : p = x) : upL p x m = m := by unfold upL; rw [if_pos h]
theorem upL_not {p x : List UInt8} {m : Nat} (h : ¬ p = x) : upL p x m = max m (cm p x + 1) := by unfold upL; rw [if_neg h]

set_option maxHeartbeats 1000000 in
/-- Of no hashes. -/
theorem lead_none (w : World) : Calls Tryd.prog 24 #[.slice none 0 0] w fun e w' => (∃ n : Nat, e = .returned (.int .i64 n) ∧ IsLead (fun x => x ∈ ([] : List (List UInt8))) n) ∧ Below w.heap.size w w' := by
  have HC : Hid (∀ wx, Calls Tryd.prog 59 #[.slice none 0 0] wx fun e w' => e = .returned (.slice none 0 0) ∧ w' = wx) := fun wx => cloneH_nil wx
  have HS : Hid (∀ wx, Calls Tryd.prog 60 #[.slice none 0 0, .func (.func 61) #[] #[]] wx fun e w' => e = .returned (.tuple #[]) ∧ w' = wx) := fun wx => AnyF.slices_SortFunc_none sortLays none 0 _ wx
  go_enter Tryd.func24, Tryd.ntmps24
  go_wp2_with (first | (go_at_call 59; refine (HC.out _).mono ?_; rintro e w' ⟨rfl, rfl⟩) | (go_at_call 60; refine (HS.out _).mono ?_; rintro e w' ⟨rfl, rfl⟩) | fail)
  go_loopw [4, 5] (fun c i wr => c = .int .i64 0 ∧ i = .int .i64 1 ∧ wr = w') (fun _ _ _ => 0)
  case atStart => exact ⟨rfl, rfl, rfl⟩
  case round =>
    obtain ⟨rfl, rfl, rfl⟩ := hrel
    go_wp2
    go_ret
    exact ⟨⟨0, rfl, ⟨fun a b h => by simp at h, .inl rfl⟩⟩, Below.refl _ _⟩

set_option maxRecDepth 100000 in
set_option maxHeartbeats 2000000 in
theorem lead_any (a : Addr) (L : List (List UInt8)) (cap : Nat) (w : World) (hL : All32 L) (hb : L.length ≤ 4398046511104) (hl : Hl w (some a) L) :
    Calls Tryd.prog 24 #[.slice (some a) L.length cap] w fun e w' => (∃ n : Nat, e = .returned (.int .i64 n) ∧ IsLead (fun x => x ∈ L) n) ∧ Below w.heap.size w w' := by
  have HC : Hid (Calls Tryd.prog 59 #[.slice (some a) L.length cap] w fun e w' => ∃ g cap', e = .returned (.slice (some ⟨g, 0, none⟩) L.length cap') ∧ OwnH w' w.heap.size (.slice (some ⟨g, 0, none⟩) L.length cap') L ∧ Below w.heap.size w w') := cloneH_any a L cap w hL hb hl
  obtain ⟨n, hn⟩ : ∃ n, n = L.length := ⟨_, rfl⟩
  rw [← hn] at hb HC ⊢
  have HN : Hid (n = L.length) := hn
  clear hn hl
  go_enter Tryd.func24, Tryd.ntmps24
  go_wp2_with fail
  refine HC.out.mono ?_
  rintro e w1 ⟨g, cap', rfl, own1, be1⟩
  clear HC
  obtain ⟨hgB, hg1, hs1, ht1⟩ : w.heap.size ≤ g ∧ g < w1.heap.size ∧ Hs w1 g 0 L ∧ w1.there g 0 (32 * L.length) := by
    rcases own1.open with ⟨h1, _⟩ | ⟨g', c', h1, _, h2, h3, h4, h5⟩
    · cases h1
    · cases h1; exact ⟨h2, h3, h4, h5⟩
  have HS : Hid (Calls Tryd.prog 60 #[.slice (some ⟨g, 0, none⟩) n cap', .func (.func 61) #[] #[]] w1 fun e w' => e = .returned (.tuple #[]) ∧
      ∃ L' : List (List UInt8), L'.Perm L ∧ Rises L' ∧ Hs w' g 0 L' ∧ w'.there g 0 (32 * L.length) ∧ ∀ B, B ≤ g → Below B w1 w') := (by
    rw [HN.out]
    exact sortH_any g L cap' w1 hL (by rw [← HN.out]; exact hb) hg1 hs1 ht1)
  clear own1 hs1 ht1
  go_wp2_with fail
  refine HS.out.mono ?_
  rintro e w2 ⟨rfl, M, hpm, hri, hs2, ht2, hbel⟩
  have be2 : Below w.heap.size w w2 := be1.trans (hbel _ hgB)
  have hsz2 : w1.heap.size ≤ w2.heap.size := (hbel _ hgB).size
  have hML : Hid (M.length = n) := (by rw [hpm.length_eq, HN.out] : M.length = n)
  have HM32 : Hid (All32 M) := fun x hx => hL x (hpm.mem_iff.1 hx)
  have HP : Hid (M.Perm L) := hpm
  have HRI : Hid (Rises M) := hri
  have HS2 : Hid (Hs w2 g 0 M) := hs2
  have hg2 : g < w2.heap.size := by omega
  clear HS hpm hri hs2 ht2 hbel be1 hsz2 hg1
  go_wp2
  go_loopw [4, 5] (fun c i wr => ∃ m k : Nat, 1 ≤ k ∧ (k ≤ n ∨ k = 1) ∧ m ≤ 64 ∧ i = .int .i64 k ∧ c = .int .i64 m ∧ Hid (IsLead (Ahead M k) m) ∧ Below w2.heap.size w2 wr) (fun _ i _ => n - (intOf i).toNat)
  case atStart => exact ⟨0, 1, by omega, by omega, by omega, rfl, rfl, lead_one M, Below.refl _ _⟩
  case round =>
    obtain ⟨m, k, hk1, hkn', hm64, rfl, rfl, hld, bel⟩ := hrel
    by_cases hkn : k < n
    · have hkM : k < M.length := by rw [hML.out]; exact hkn
      obtain ⟨x, hx⟩ : ∃ x, M[k]? = some x := ⟨_, List.getElem?_eq_getElem hkM⟩
      obtain ⟨p, hp⟩ : ∃ p, M[k - 1]? = some p := ⟨_, List.getElem?_eq_getElem (by omega)⟩
      have hx32 := HM32.out.get hx
      have hp32 := HM32.out.get hp
      have hne : Nonempty (ExtT wr) := ExtT.some wr
      have S1 : Hid (wr.rangeAt g (32 * (k - 1)) (hcs p)) := (by have := rangeAt_below (HS2.out (k - 1) p hp) bel hg2; rwa [Nat.zero_add] at this : wr.rangeAt g (32 * (k - 1)) (hcs p))
      have S2 : Hid (wr.rangeAt g (32 * k) (hcs x)) := (by have := rangeAt_below (HS2.out k x hx) bel hg2; rwa [Nat.zero_add] at this : wr.rangeAt g (32 * k) (hcs x))
      have ix1 : ∀ wx, (Instr.indexAt 37 (.slice (some ⟨g, 0, none⟩) n cap') (.int .i64 ((k : Int) - 1))).run Tryd.prog wx = .ok (.pointer (some ⟨g, 32 * (k - 1), none⟩)) wx := fun wx => (by
        have := indexH g 0 n cap' (k - 1) wx (by omega)
        rwa [Nat.zero_add, show ((k - 1 : Nat) : Int) = (k : Int) - 1 by omega] at this)
      have ix2 := fun wx => indexH g 0 n cap' k wx hkn
      simp only [Nat.zero_add] at ix2
      have wk : IntKind.i64.wrap ((k : Int) - 1) = (k : Int) - 1 := by simp only [IntKind.wrap, IntKind.bits, IntKind.signed]; simp; omega
      have wk2 : wrap64 ((k : Int) - 1) = (k : Int) - 1 := (by unfold wrap64; omega)
      have HC : Hid (∀ wx, Calls Tryd.prog 72 #[.agg (bs p), .agg (bs x)] wx fun e w' => e = .returned (.int .i64 (cm p x)) ∧ Below wx.heap.size wx w') := fun wx => common_any p x hp32 hx32 wx
      have HK : Hid (IsLead (Ahead M (k + 1)) (upL p x m)) := lead_step HM32.out HRI.out hk1 hp hx hld.out
      have hup : upL p x m ≤ 64 := upL_le hp32 hx32 hm64
      have eqq : ∀ wx, (Op.equalIn 10000 36 (.agg (bs p)) (.agg (bs x))).run Tryd.prog wx = .ok (decide (p = x)) wx := fun wx => eq23 p x hp32 hx32 wx
      clear hx hp hld
      by_cases hpx : p = x
      · have hd : decide (p = x) = true := by simp [hpx]
        rw [hd] at eqq
        rw [upL_same hpx] at HK
        clear hd hpx hup
        go_wp2_with fail
        refine wp_region_ext (by kernel_rfl) (by kernel_rfl) ?_
        repeat (first
          | (go_big_quiet_want; refine quiet_load_mid 36 _ rfl g (32 * (k - 1)) rfl (bs p) _ (by rintro _ ⟨e, rfl⟩; exact e.range S1.out (hcs_pos hp32)) Tryd.underlying36 rfl (sizeH hp32) ?_; simp [Act.put]; go_big_quiet_on)
          | (go_big_quiet_want; refine quiet_load_mid 36 _ rfl g (32 * k) rfl (bs x) _ (by rintro _ ⟨e, rfl⟩; exact e.range S2.out (hcs_pos hx32)) Tryd.underlying36 rfl (sizeH hx32) ?_; simp [Act.put]; go_big_quiet_on)
          | go_big_quiet_step (first | (go_at_call 72; exact ext_of (HC.out _)) | fail))
        refine wpQuiet_nil ?_
        rintro w3 ⟨⟨_, bl3⟩, rfl⟩
        go_wp2
        exact ⟨⟨m, k + 1, by omega, by omega, hm64, by go_num, rfl, HK, bel.trans (bl3.mono bel.size)⟩, by simp [intOf]; omega⟩
      · have hd : decide (p = x) = false := by simp [hpx]
        rw [hd] at eqq
        rw [upL_not hpx] at HK hup
        have hc64 : cm p x ≤ 64 := cm_le p x
        clear hd hpx
        generalize cm p x = c at *
        go_wp2_with fail
        refine wp_region_ext (by kernel_rfl) (by kernel_rfl) ?_
        repeat (first
          | (go_big_quiet_want; refine quiet_load_mid 36 _ rfl g (32 * (k - 1)) rfl (bs p) _ (by rintro _ ⟨e, rfl⟩; exact e.range S1.out (hcs_pos hp32)) Tryd.underlying36 rfl (sizeH hp32) ?_; simp [Act.put]; go_big_quiet_on)
          | (go_big_quiet_want; refine quiet_load_mid 36 _ rfl g (32 * k) rfl (bs x) _ (by rintro _ ⟨e, rfl⟩; exact e.range S2.out (hcs_pos hx32)) Tryd.underlying36 rfl (sizeH hx32) ?_; simp [Act.put]; go_big_quiet_on)
          | go_big_quiet_step (first | (go_at_call 72; exact ext_of (HC.out _)) | fail))
        refine wpQuiet_nil ?_
        rintro w3 ⟨⟨_, bl3⟩, rfl⟩
        go_wp2_with fail
        have bel3 : Below w2.heap.size w2 w3 := bel.trans (bl3.mono bel.size)
        have S3 : Hid (w3.rangeAt g (32 * (k - 1)) (hcs p)) := rangeAt_below S1.out bl3 (by have := bel.size; omega)
        have S4 : Hid (w3.rangeAt g (32 * k) (hcs x)) := rangeAt_below S2.out bl3 (by have := bel.size; omega)
        clear hne
        have hne : Nonempty (ExtT w3) := ExtT.some w3
        have wc : IntKind.i64.wrap ((c : Int) + 1) = (c : Int) + 1 := by simp only [IntKind.wrap, IntKind.bits, IntKind.signed]; simp; omega
        have wc2 : wrap64 ((c : Int) + 1) = (c : Int) + 1 := by unfold wrap64; omega
        refine wp_region_ext (by kernel_rfl) (by kernel_rfl) ?_
        repeat (first
          | (go_big_quiet_want; refine quiet_load_mid 36 _ rfl g (32 * (k - 1)) rfl (bs p) _ (by rintro _ ⟨e, rfl⟩; exact e.range S3.out (hcs_pos hp32)) Tryd.underlying36 rfl (sizeH hp32) ?_; simp [Act.put]; go_big_quiet_on)
          | (go_big_quiet_want; refine quiet_load_mid 36 _ rfl g (32 * k) rfl (bs x) _ (by rintro _ ⟨e, rfl⟩; exact e.range S4.out (hcs_pos hx32)) Tryd.underlying36 rfl (sizeH hx32) ?_; simp [Act.put]; go_big_quiet_on)
          | go_big_quiet_step (first | (go_at_call 72; exact ext_of (HC.out _)) | fail))
        refine wpQuiet_nil ?_
        rintro w4 ⟨⟨_, bl4⟩, rfl⟩
        rw [max_cast]
        clear wk wk2 wc wc2
        generalize max m (c + 1) = mx at *
        go_wp2
        exact ⟨⟨mx, k + 1, by omega, by omega, hup, by go_num, rfl, HK, bel3.trans (bl4.mono bel3.size)⟩, by simp [intOf]; omega⟩
    · have HE : Hid (IsLead (fun x => x ∈ L) m) := lead_end (by rw [hML.out]; omega) HP.out hld.out
      go_wp2
      go_ret
      exact ⟨⟨m, rfl, HE.out⟩, be2.trans (bel.mono be2.size)⟩
theorem findG_one (s : ByteArray) (x : List UInt8) : ∀ (L : List (List UInt8)) (st : Option (List UInt8)), (∀ y ∈ L, beg y s = true → y = x) → (st = some x ∨ st = none ∧ x ∈ L ∧ beg x s = true) → findG s st L = (x, 0)
  | [], st, _, h => by
    rcases h with rfl | ⟨_, h, _⟩
    · rfl
    · simp at h
  | y :: r, st, hy, h => by
    have hr : ∀ z ∈ r, beg z s = true → z = x := fun z hz => hy z (by simp [hz])
    rcases h with rfl | ⟨rfl, hm, hb⟩
    · unfold findG
      cases hb : beg y s with
      | true =>
        have e := hy y (by simp) hb
        subst e
        simp only [if_true]
        exact findG_one s y r (some y) hr (.inl rfl)
      | false => exact findG_one s x r (some x) hr (.inl rfl)
    · unfold findG
      cases hb2 : beg y s with
      | true =>
        have e := hy y (by simp) hb2
        subst e
        exact findG_one s y r (some y) hr (.inl rfl)
      | false =>
        have hne : x ≠ y := fun e => by subst e; rw [hb] at hb2; cases hb2
        exact findG_one s x r none hr (.inr ⟨rfl, (List.mem_cons.1 hm).resolve_left hne, hb⟩)
theorem hexl_agree {x y : List UInt8} {n : Nat} : hexl x n = hexl y n ↔ Agree x y n := by
  constructor
  · intro e j hj
    have h1 := at8_hexl x n j hj
    have h2 := at8_hexl y n j hj
    rw [e, h2] at h1
    have h3 := congrArg dgVal h1
    rw [(hx_all _ (dig_bd y j).1 (dig_bd y j).2).2, (hx_all _ (dig_bd x j).1 (dig_bd x j).2).2] at h3
    exact h3.symm
  · intro h
    unfold hexl
    apply List.map_congr_left
    intro j hj
    rw [h j (by simpa using hj)]
theorem beg_hexl (y x : List UInt8) (m : Nat) (hm : m ≤ 64) : beg y ⟨(hexl x m).toArray⟩ = decide (m ≤ cm y x) := by
  unfold beg
  have hsz : (⟨(hexl x m).toArray⟩ : ByteArray).size = m := by show (hexl x m).toArray.size = m; simp [hexl_len]
  rw [hsz]
  have e : (hexl y m = (⟨(hexl x m).toArray⟩ : ByteArray).data.toList) ↔ m ≤ cm y x := by
    rw [le_cm hm, ← hexl_agree]
  simp only [e]
theorem findA_lead {L : List (List UInt8)} (hL : All32 L) {m : Nat} (hm : m ≤ 64) (hl : IsLead (fun x => x ∈ L) m) {x : List UInt8} (hx : x ∈ L) : findA ⟨(hexl x m).toArray⟩ L = (x, 0) := by
  have hsz : (⟨(hexl x m).toArray⟩ : ByteArray).size = m := by show (hexl x m).toArray.size = m; simp [hexl_len]
  have hdg : AllDg ⟨(hexl x m).toArray⟩ := fun j hj => by
    rw [hsz] at hj
    show isDg (at8 (hexl x m) j) = true
    rw [at8_hexl _ _ _ hj]
    exact (hx_all _ (dig_bd x j).1 (dig_bd x j).2).1
  unfold findA
  rw [if_pos ⟨by omega, good_all (by omega) hdg⟩]
  refine findG_one _ x L none (fun y hy hb => ?_) (.inr ⟨rfl, hx, ?_⟩)
  · rw [beg_hexl y x m hm, decide_eq_true_eq] at hb
    by_cases e : y = x
    · exact e
    · have := hl.1 y x hy hx e
      omega
  · rw [beg_hexl x x m hm, decide_eq_true_eq, le_cm hm]
    intro j hj
    rfl

/-! ### A list that is nil -/
set_option maxRecDepth 100000 in
set_option maxHeartbeats 1000000 in
theorem whashes_nil {p : Nat} {g : Option Nat} {M : List UInt8} (w : World) (hw0 : K.WS w 28 p g M 0) (hsum : M.length ≤ 1000) :
    Calls Tryd.prog 18 #[.pointer (some ⟨p, 0, none⟩), .slice none 0 0] w fun x w' => x = .returned (.tuple #[]) ∧ K.Wr w w' 28 p g (M ++ hw []) 0 := by
  have HC : Hid (∀ wx, Calls Tryd.prog 59 #[.slice none 0 0] wx fun e w' => e = .returned (.slice none 0 0) ∧ w' = wx) := fun wx => cloneH_nil wx
  have HS : Hid (∀ wx, Calls Tryd.prog 60 #[.slice none 0 0, .func (.func 61) #[] #[]] wx fun e w' => e = .returned (.tuple #[]) ∧ w' = wx) := fun wx => AnyF.slices_SortFunc_none sortLays none 0 _ wx
  have HK : Hid (∀ wx, Calls Tryd.prog 62 #[.slice none 0 0] wx fun e w' => e = .returned (.slice none 0 0) ∧ w' = wx) := fun wx => compact_few none 0 0 (by omega) wx
  have HU : Hid (Calls Tryd.prog 27 #[.pointer (some ⟨p, 0, none⟩), .int .u64 0] w fun x w' => x = .returned (.tuple #[]) ∧ K.Wr w w' 28 p g (M ++ hw []) 0) := (by
    have := K.wuint_any 0 (by omega) w hw0 (by omega)
    rw [K.wA_0] at this
    have e : hw [] = K.vint 0 := by unfold hw; simp [cat]
    rw [e]
    exact this)
  clear hw0
  go_enter Tryd.func18, Tryd.ntmps18
  go_wp2_with (first | (go_at_call 59; refine (HC.out _).mono ?_; rintro e w' ⟨rfl, rfl⟩) | (go_at_call 60; refine (HS.out _).mono ?_; rintro e w' ⟨rfl, rfl⟩) | (go_at_call 62; refine (HK.out _).mono ?_; rintro e w' ⟨rfl, rfl⟩) | fail)
  refine HU.out.mono ?_
  rintro e w1 ⟨rfl, ho⟩
  have HO : Hid (K.Wr w' w1 28 p g (M ++ hw []) 0) := ho
  clear ho HU
  go_wp2
  go_loopw [20] (fun i wr => i = .int .i64 0 ∧ wr = w1) (fun _ _ => 0)
  case atStart => exact ⟨rfl, rfl⟩
  case round =>
    obtain ⟨rfl, rfl⟩ := hrel
    go_wp2
    go_end0
    exact ⟨rfl, HO.out⟩
theorem hw_pos (D : List (List UInt8)) : 0 < (hw D).length := by
  unfold hw
  rw [List.length_append, K.vint]
  split <;> simp <;> omega
theorem hw_len {D : List (List UInt8)} (hD : All32 D) (h : D.length ≤ 4398046510976) : (hw D).length ≤ D.length * 32 + 10 ∧ D.length * 32 ≤ (hw D).length := by
  have h1 := K.vint_10 D.length (by omega)
  unfold hw
  rw [List.length_append, cat_len hD]
  omega
theorem srt_nil : Srt [] [] := ⟨fun i j x y h => by simp at h, fun x h => by simp at h, fun x => Iff.rfl⟩
theorem whashes_all {p : Nat} {g : Option Nat} {M : List UInt8} (a : Option Addr) (L : List (List UInt8)) (cap : Nat) (ha : a = none → L = [] ∧ cap = 0) (w : World) (hL : All32 L) (hb : L.length ≤ 4398046510976) (hl : Hl w a L) (hw0 : K.WS w 28 p g M 0) (hsum : M.length ≤ 1000) :
    Calls Tryd.prog 18 #[.pointer (some ⟨p, 0, none⟩), .slice a L.length cap] w fun x w' => x = .returned (.tuple #[]) ∧ ∃ D, Srt L D ∧ D.length ≤ L.length ∧ K.Wr w w' 28 p g (M ++ hw D) 0 := by
  cases a with
  | none =>
    obtain ⟨rfl, rfl⟩ := ha rfl
    exact (whashes_nil w hw0 hsum).mono fun x w' h => ⟨h.1, [], srt_nil, Nat.le_refl _, h.2⟩
  | some a => exact whashes_any a L cap w hL hb hl hw0 hsum
theorem lead_all (a : Option Addr) (L : List (List UInt8)) (cap : Nat) (ha : a = none → L = [] ∧ cap = 0) (w : World) (hL : All32 L) (hb : L.length ≤ 4398046511104) (hl : Hl w a L) :
    Calls Tryd.prog 24 #[.slice a L.length cap] w fun e w' => (∃ n : Nat, e = .returned (.int .i64 n) ∧ IsLead (fun x => x ∈ L) n) ∧ Below w.heap.size w w' := by
  cases a with
  | none =>
    obtain ⟨rfl, rfl⟩ := ha rfl
    exact lead_none w
  | some a => exact lead_any a L cap w hL hb hl
end Go.Proofs.YtpalbfkkegaliabDoor
namespace Go.Proofs.YtpalbfkkegaliabDoor.X
theorem frame_at0 (k : UInt8) (b t : List UInt8) : at8 (frame k b ++ t) 0 = (k.toNat : Int) := rfl
theorem frame_body (k : UInt8) (b t : List UInt8) : ((frame k b ++ t).drop 9).take b.length = b := by
  have e : frame k b ++ t = head9 k b.length ++ (b ++ (be (crc (head9 k b.length ++ b)) ++ t)) := by unfold frame; simp [List.append_assoc]
  rw [e, List.drop_append, List.drop_of_length_le (by rw [head9_len]; omega), head9_len]
  simp
end Go.Proofs.YtpalbfkkegaliabDoor.X

namespace Go.Proofs.YtpalbfkkegaliabDoor
open Go.RowKit
set_option linter.unusedVariables false
set_option linter.unusedSimpArgs false

theorem ws_zero (w : World) : K.WS (w.alloc (.cells #[.slice none 0 0, .int .i64 0] 28)) 28 w.heap.size none [] 0 :=
  ⟨⟨.slice none 0 0, heap_alloc_new _ _, K.ownB_nil _ _, rfl⟩, fun h => by cases h⟩
theorem hq0 {w : World} (h : X.NibsAt w) : 0 < w.heap.size := block_lt_of_cell (h 0 (by omega))
theorem nibs_b {w w' : World} (h : X.NibsAt w) (hb : Below w.heap.size w w') (h0 : 0 < w.heap.size) : X.NibsAt w' := fun j hj => (World.cell?_of_block (hb.block 0 h0)).trans (h j hj)
theorem slice_str (S : ByteArray) (n : Nat) (hn : n ≤ S.size) (w : World) (hs : S.size ≤ 64) : (Instr.slice 9 (.string S) none (some (.int .i64 (n : Int))) none).run Tryd.prog w = .ok (.string (S.extract 0 n)) w := by
  simp [Instr.slice, Instr.sliceBounds, Instr.sliceBound, asIntOf, run_underlying Tryd.underlying9, hn]
theorem doneE_all (D : List (List UInt8)) : K.doneE (hw D) ⟨(hw D).length, 0, 0⟩ = 0 := by simp [K.doneE]

set_option maxRecDepth 100000 in
set_option maxHeartbeats 4000000 in
theorem told_all (a : Option Addr) (L : List (List UInt8)) (cap : Nat) (ha : a = none → L = [] ∧ cap = 0) (kind : UInt8) (kv : Int) (hkv : kv = (kind.toNat : Int)) (w : World) (hL : All32 L) (hb : L.length ≤ 4398046510976) (hl : Hl w a L) (hN : X.NibsAt w) :
    Calls Tryd.prog 5 #[.slice a L.length cap, .int .u8 kv] w fun e w' => e = .returned (.bool true) ∧ Below w.heap.size w w' := by
  have be0 : Below w.heap.size w (w.alloc (.cells #[.slice none 0 0, .int .i64 0] 28)) := (Below.refl _ _).alloc (Nat.le_refl _) _
  have HW : Hid (Calls Tryd.prog 18 #[.pointer (some ⟨w.heap.size, 0, none⟩), .slice a L.length cap] (w.alloc (.cells #[.slice none 0 0, .int .i64 0] 28)) fun x w' => x = .returned (.tuple #[]) ∧ ∃ D, Srt L D ∧ D.length ≤ L.length ∧ K.Wr (w.alloc (.cells #[.slice none 0 0, .int .i64 0] 28)) w' 28 w.heap.size none ([] ++ hw D) 0) :=
    whashes_all a L cap ha _ hL (by omega) (hl.below hL be0) (ws_zero w) (by simp)
  obtain ⟨n, hn⟩ : ∃ n, n = L.length := ⟨_, rfl⟩
  rw [← hn] at hb HW ⊢
  have HN : Hid (n = L.length) := hn
  have HL : Hid (Hl w a L) := hl
  have HA : Hid (a = none → L = [] ∧ cap = 0) := ha
  have HNb : Hid (X.NibsAt w) := hN
  have HKV : Hid (kv = (kind.toNat : Int)) := hkv
  clear hn hl ha hN hkv
  go_enter Tryd.func5, Tryd.ntmps5
  go_wp2_with fail
  refine HW.out.mono ?_
  rintro e w1 ⟨rfl, D, hSrt, hDL, hWr⟩
  have HSrt : Hid (Srt L D) := hSrt
  have hD31 : D.length ≤ 4398046510976 := by omega
  have be1 : Below w.heap.size w w1 := by
    obtain ⟨g1, _, f, _⟩ := hWr
    have hz : w.heap.size + 1 ≤ w1.heap.size := by have := f.size; simpa using this
    exact ⟨f.os, f.tape, f.output, by omega, fun i hi => by rw [f.block i (by simp; omega) (by omega) (by simp)]; exact be0.block i hi⟩
  obtain ⟨hlen, hlen2⟩ := hw_len hSrt.2.1 hD31
  have hpos := hw_pos D
  obtain ⟨g1, ws1, _, _⟩ := hWr
  rw [List.nil_append] at ws1
  have HDo : Hid (Calls Tryd.prog 9 #[.pointer (some ⟨w.heap.size, 0, none⟩)] w1 fun x w' => ∃ b cv, x = .returned (.tuple #[.slice (some ⟨b, 0, none⟩) (hw D).length cv, .int .i64 0]) ∧ K.OwnB w' w1.heap.size (.slice (some ⟨b, 0, none⟩) (hw D).length cv) (hw D) ∧ Below w1.heap.size w1 w') := K.wdone0 w1 ws1 hpos (by omega)
  obtain ⟨B, hB⟩ : ∃ B, B = hw D := ⟨_, rfl⟩
  rw [← hB] at hlen hlen2 hpos HDo
  obtain ⟨nb, hnb⟩ : ∃ nb, nb = B.length := ⟨_, rfl⟩
  rw [← hnb] at hlen hlen2 hpos HDo
  have HB : Hid (B = hw D) := hB
  have HBn : Hid (B.length = nb) := hnb.symm
  clear HW hB hnb ws1 hSrt be0
  go_wp2_with fail
  refine HDo.out.mono ?_
  rintro e w2 ⟨bb, cv, rfl, own2, bl2⟩
  have be2 : Below w.heap.size w w2 := be1.trans (bl2.mono be1.size)
  have HO2 : Hid (K.OwnB w2 w1.heap.size (.slice (some ⟨bb, 0, none⟩) nb cv) B) := own2
  have hb2 : K.Byt w2 (some ⟨bb, 0, none⟩) B := by
    obtain ⟨a', c', e, _, h, _⟩ := own2.open
    cases e
    exact h
  by_cases hlong : 16777216 < nb
  · have HSg : Hid (Calls Tryd.prog 19 #[.int .u8 kv, .slice (some ⟨bb, 0, none⟩) nb cv] w2 fun e w' => e = .returned (.tuple #[.slice none 0 0, .int .i64 6]) ∧ w' = w2) := X.seal_long kv (some ⟨bb, 0, none⟩) nb cv w2 hlong
    have hn0 : ¬ nb = 0 := by omega
    have hn0' : ¬ (nb : Int) = 0 := by omega
    have hlo2 : (16777216 : Int) < (nb : Int) := by omega
    clear HDo own2 hb2 bl2 HO2
    go_wp2_with fail
    refine HSg.out.mono ?_
    rintro e w3 ⟨rfl, rfl⟩
    go_wp2
    try (go_quiet (fail); go_wp2)
    go_ret
    first | exact ⟨rfl, be2⟩ | exact ⟨rfl, below_drewN be2 _⟩
  have HSl : Hid (Calls Tryd.prog 19 #[.int .u8 kv, .slice (some ⟨bb, 0, none⟩) nb cv] w2 fun e w' => ∃ v, e = .returned (.tuple #[v, .int .i64 0]) ∧ X.OwnB w' w2.heap.size v (X.frame kind B) ∧ Below w2.heap.size w2 w') := X.seal_any kind kv HKV.out (some ⟨bb, 0, none⟩) B nb cv w2 HBn.out hb2 (by omega) (nibs_b HNb.out be2 (hq0 HNb.out))
  have HB2 : Hid (K.Byt w2 (some ⟨bb, 0, none⟩) B) := hb2
  have hn0 : ¬ nb = 0 := by omega
  have hn0' : ¬ (nb : Int) = 0 := by omega
  clear HDo own2 hb2 bl2
  go_wp2_with fail
  refine HSl.out.mono ?_
  rintro e w3 ⟨v3, rfl, own3, bl3⟩
  have be3 : Below w.heap.size w w3 := be2.trans (bl3.mono be2.size)
  have hfl : (X.frame kind B).length = nb + 13 := by rw [X.frame_len, HBn.out]
  obtain ⟨g3, c3, rfl, hc3, _, hg3, hg3'⟩ := own3.open1 (by omega)
  rw [hfl] at own3 hc3 ⊢
  have HO3 : Hid (X.OwnB w3 w2.heap.size (.slice (some ⟨g3, 0, none⟩) (nb + 13) c3) (X.frame kind B)) := own3
  have HB3 : Hid (K.Byt w3 (some ⟨bb, 0, none⟩) B) := K.byt_below HB2.out bl3
  have bl3' : Hid (Below w2.heap.size w2 w3) := bl3
  clear HSl own3 hn0 hn0' bl3
  generalize ((nb : Int) == 0) = bz
  have ba4 : Below w3.heap.size w3 (w3.alloc (.cells (bs [1, 2, 3]) 5)) := (Below.refl _ _).alloc (Nat.le_refl _) _
  have O4 : Hid (X.OwnB (w3.alloc (.cells (bs [1, 2, 3]) 5)) w2.heap.size (.slice (some ⟨g3, 0, none⟩) (nb + 13) c3) (X.frame kind B)) := X.OwnB.below HO3.out ba4
  have B4 : Hid (X.Byt (w3.alloc (.cells (bs [1, 2, 3]) 5)) (some ⟨w3.heap.size, 0, none⟩) [1, 2, 3]) := K.byt_lit w3 [1, 2, 3] 5
  have S4 : Hid ((X.frame kind B).length + ([1, 2, 3] : List UInt8).length ≤ 140737488355328) := (by rw [hfl]; simp; omega : (X.frame kind B).length + ([1, 2, 3] : List UInt8).length ≤ 140737488355328)
  have hz23 : w2.heap.size ≤ w3.heap.size := by omega
  have Z4 : Hid (w2.heap.size ≤ (w3.alloc (.cells (bs [1, 2, 3]) 5)).heap.size) := (by simp; omega : w2.heap.size ≤ (w3.alloc (.cells (bs [1, 2, 3]) 5)).heap.size)
  go_wp2_with (first | (at_builtin; refine X.wpList_app rfl (.tmp 47) (.tmp 48) rfl w2.heap.size (.slice (some ⟨g3, 0, none⟩) (nb + 13) c3) (X.frame kind B) rfl O4.out (some ⟨w3.heap.size, 0, none⟩) 3 3 [1, 2, 3] rfl rfl B4.out S4.out Z4.out ?_) | fail)
  intro v5 w5 own5 grow5
  have be5 : Below w2.heap.size w2 w5 := ((bl3'.out).trans (ba4.mono hz23)).grown grow5 Z4.out (fun k hk => (World.ownsRow.lt O4.out k hk).1)
  have bw5 : Below w.heap.size w w5 := be2.trans (be5.mono be2.size)
  obtain ⟨g5, c5, rfl, hc5, _, hg5, hg5'⟩ := own5.open1 (by rw [List.length_append, hfl]; omega)
  have hl5 : (X.frame kind B ++ [1, 2, 3]).length = nb + 16 := by rw [List.length_append, hfl]; rfl
  have hb5 : X.Byt w5 (some ⟨g5, 0, none⟩) (X.frame kind B ++ [1, 2, 3]) := by
    obtain ⟨a', c', e, _, h, _⟩ := X.OwnB.open own5
    cases e
    exact h
  rw [hl5] at hc5 ⊢
  have HOp : Hid (Calls Tryd.prog 20 #[.slice (some ⟨g5, 0, none⟩) (nb + 16) c5] w5 fun e w' => ∃ v, e = .returned (.tuple #[.int .u8 kv, v, .int .i64 ((nb : Int) + 13), .int .i64 0]) ∧ Below w5.heap.size w5 w' ∧ X.OwnB w' w5.heap.size v B) := (by
    refine (X.open_any (some ⟨g5, 0, none⟩) (X.frame kind B ++ [1, 2, 3]) (nb + 16) c5 w5 hl5 hc5 (by omega) hb5 (nibs_b HNb.out bw5 (hq0 HNb.out))).mono ?_
    rintro e w' ⟨k, v, m, rfl, hbe, h1, _⟩
    have h0 : X.openE (X.frame kind B ++ [1, 2, 3]) = 0 := X.open_frame kind B _ (by rw [HBn.out]; omega)
    obtain ⟨rfl, rfl, h4⟩ := h1 h0
    rw [X.frame_rd1 kind B _ (by rw [HBn.out]; omega), X.frame_body] at h4
    refine ⟨v, ?_, hbe, h4⟩
    rw [h0, X.frame_at0, X.frame_rd1 kind B _ (by rw [HBn.out]; omega), HBn.out, HKV.out, show (9 : Int) + (nb : Int) + 4 = (nb : Int) + 13 by omega]
    rfl)
  have HB5 : Hid (K.Byt w5 (some ⟨bb, 0, none⟩) B) := K.byt_below HB2.out be5
  clear O4 B4 S4 Z4 own5 grow5 hb5 hl5 hfl be5
  go_wp2_with fail
  refine HOp.out.mono ?_
  rintro e w6 ⟨v6, rfl, bl6, own6⟩
  have bw6 : Below w.heap.size w w6 := bw5.trans (bl6.mono bw5.size)
  obtain ⟨g6, c6, rfl, hc6, _, hg6, hg6'⟩ := X.OwnB.open1 own6 (by rw [HBn.out]; omega)
  have hb6 : X.Byt w6 (some ⟨g6, 0, none⟩) B := by
    obtain ⟨a', c', e, _, h, _⟩ := X.OwnB.open own6
    cases e
    exact h
  have HB6 : Hid (K.Byt w6 (some ⟨g6, 0, none⟩) B) := hb6
  have HC6 : Hid (K.Byt w6 (some ⟨bb, 0, none⟩) B) := K.byt_below HB5.out bl6
  rw [HBn.out] at hc6 ⊢
  have HSm : Hid (Calls Tryd.prog 17 #[.slice (some ⟨bb, 0, none⟩) nb cv, .slice (some ⟨g6, 0, none⟩) nb c6] w6 fun e w' => e = .returned (.bool true) ∧ ∃ m, w' = w6.drewN m) := X.same_any (some ⟨bb, 0, none⟩) (some ⟨g6, 0, none⟩) B nb cv c6 w6 HBn.out HC6.out HB6.out (by omega)
  clear HOp own6 hb6 HB5 bl6
  go_wp2_with fail
  refine HSm.out.mono ?_
  rintro e w7 ⟨rfl, m7, hw7⟩
  have bw7 : Below w.heap.size w w7 := by rw [hw7]; exact below_drewN bw6 _
  have HNr : Hid (Calls Tryd.prog 11 #[.slice (some ⟨g6, 0, none⟩) nb c6] w7 fun e w' => ∃ r a c, e = .returned (.pointer (some ⟨r, 0, none⟩)) ∧ K.RD w' 91 r a c (hw D) ⟨0, 0, 0⟩ ∧ w7.heap.size ≤ r ∧ Below w7.heap.size w7 w') := (by
    have hb7 : K.Byt w7 (some ⟨g6, 0, none⟩) B := by rw [hw7]; exact HB6.out
    rw [← HB.out]
    exact K.new_any g6 0 nb c6 B w7 HBn.out (by omega) hb7)
  clear HSm hw7 HB6 HC6
  go_wp2_with fail
  refine HNr.out.mono ?_
  rintro e w8 ⟨r, ra, rc, rfl, rd8, hr8, bl8⟩
  have bw8 : Below w.heap.size w w8 := bw7.trans (bl8.mono bw7.size)
  have HRh : Hid (Calls Tryd.prog 21 #[.pointer (some ⟨r, 0, none⟩), .int .i64 (n : Int)] w8 fun e w' => ∃ q, e = .returned (.slice (some ⟨q, 0, none⟩) D.length D.length) ∧ w8.heap.size ≤ q ∧ q < w'.heap.size ∧ Hs w' q 0 D ∧ w'.there q 0 (32 * D.length) ∧ K.On w8 w' 91 r ra rc (hw D) ⟨(hw D).length, 0, 0⟩) := rhashes_any n (by omega) D HSrt.out.2.1 HSrt.out.1 hDL w8 rd8
  have hrw : w.heap.size ≤ r := by have := bw7.size; omega
  obtain ⟨d, hd⟩ : ∃ d, d = D.length := ⟨_, rfl⟩
  rw [← hd] at HRh hDL hD31
  have HD : Hid (d = D.length) := hd
  clear HNr rd8 bl8 hd
  go_wp2_with fail
  refine HRh.out.mono ?_
  rintro e w9 ⟨q, rfl, hq8, hq9, hs9, ht9, on9⟩
  have bw9 : Below w.heap.size w w9 := bw8.trans (on9.2.below w.heap.size hrw bw8.size)
  have HRd : Hid (Calls Tryd.prog 14 #[.pointer (some ⟨r, 0, none⟩)] w9 fun e w' => e = .returned (.tuple #[.int .i64 0, .int .i64 (K.doneP (hw D) ⟨(hw D).length, 0, 0⟩)]) ∧ ∃ m, w' = w9.drewN m) := (by
    have := K.rdone_any w9 on9.1
    rwa [doneE_all] at this)
  generalize K.doneP (hw D) ⟨(hw D).length, 0, 0⟩ = dp at *
  have HS9 : Hid (Hs w9 q 0 D) := hs9
  have hqB : w.heap.size ≤ q := by have := bw8.size; omega
  clear HRh hs9 ht9 on9
  go_wp2_with fail
  refine HRd.out.mono ?_
  rintro e wa ⟨rfl, ma, hwa⟩
  have bwa : Below w.heap.size w wa := by rw [hwa]; exact below_drewN bw9 _
  have HSa : Hid (Hs wa q 0 D) := (by rw [hwa]; exact HS9.out : Hs wa q 0 D)
  have hqa : q < wa.heap.size := by rw [hwa]; exact hq9
  have HSo : Hid (Calls Tryd.prog 23 #[.slice a n cap] wa fun e w' => ∃ v, e = .returned v ∧ OwnH w' wa.heap.size v D ∧ Below wa.heap.size wa w') := (by
    rw [HN.out]
    refine (sorted_any a L cap wa hL (by rw [← HN.out]; omega) (HL.out.below hL bwa)).mono ?_
    rintro e w' ⟨v, E, he, hE, ho, hbe⟩
    have : E = D := SRise.unique E D hE.2.1 hE.1 HSrt.out.1 (fun x => (hE.2.2 x).trans (HSrt.out.2.2 x).symm)
    rw [this] at ho
    exact ⟨v, he, ho, hbe⟩)
  clear HRd hwa HS9
  go_wp2_with fail
  refine HSo.out.mono ?_
  rintro e wb ⟨vb, rfl, ownb, blb⟩
  have bwb : Below w.heap.size w wb := bwa.trans (blb.mono bwa.size)
  obtain ⟨sa, sc, rfl, hsl⟩ : ∃ sa sc, vb = .slice sa d sc ∧ Hl wb sa D := by
    rw [HD.out]
    rcases ownb.open with ⟨rfl, h⟩ | ⟨gg, cc, rfl, _, _, _, h, _⟩
    · exact ⟨none, 0, by rw [h]; rfl, .inl h⟩
    · exact ⟨_, _, rfl, .inr ⟨_, _, rfl, h⟩⟩
  have HSb : Hid (Hs wb q 0 D) := HSa.out.below blb hqa
  have HHb : Hid (Calls Tryd.prog 22 #[.slice (some ⟨q, 0, none⟩) d d, .slice sa d sc] wb fun e w' => e = .returned (.bool true) ∧ ∃ m, w' = wb.drewN m) := (by
    have := sameH_any (some ⟨q, 0, none⟩) sa D D d sc wb HSrt.out.2.1 HSrt.out.2.1 (by rw [← HD.out]; omega) (.inr ⟨q, 0, rfl, HSb.out⟩) hsl
    rw [← HD.out, show decide (D = D) = true by simp] at this
    exact this)
  clear HSo ownb hsl HSa
  go_wp2_with fail
  refine HHb.out.mono ?_
  rintro e wc ⟨rfl, mc, hwc⟩
  have bwc : Below w.heap.size w wc := by rw [hwc]; exact below_drewN bwb _
  have HSc : Hid (Hs wc q 0 D) := (by rw [hwc]; exact HSb.out : Hs wc q 0 D)
  have hqc : q < wc.heap.size := by rw [hwc]; have := blb.size; show q < wb.heap.size; omega
  have HLe : Hid (Calls Tryd.prog 24 #[.slice (some ⟨q, 0, none⟩) d d] wc fun e w' => (∃ n : Nat, e = .returned (.int .i64 n) ∧ IsLead (fun x => x ∈ D) n) ∧ Below wc.heap.size wc w') := (by
    have := lead_any ⟨q, 0, none⟩ D d wc HSrt.out.2.1 (by rw [← HD.out]; omega) (.inr ⟨q, 0, rfl, HSc.out⟩)
    rwa [← HD.out] at this)
  clear HHb hwc HSb blb
  go_wp2_with fail
  refine HLe.out.mono ?_
  rintro e wd ⟨⟨m, rfl, hlead⟩, bld⟩
  have bwd : Below w.heap.size w wd := bwc.trans (bld.mono bwc.size)
  have HSd : Hid (Hs wd q 0 D) := HSc.out.below bld hqc
  have hqd : q < wd.heap.size := by have := bld.size; omega
  have hleadL : IsLead (fun x => x ∈ L) m := by
    refine ⟨fun x y hx hy => hlead.1 x y ((HSrt.out.2.2 x).2 hx) ((HSrt.out.2.2 y).2 hy), ?_⟩
    rcases hlead.2 with h | ⟨x, y, hx, hy, h⟩
    · exact .inl h
    · exact .inr ⟨x, y, (HSrt.out.2.2 x).1 hx, (HSrt.out.2.2 y).1 hy, h⟩
  have hm64 : m ≤ 64 := by
    rcases hlead.2 with h | ⟨x, y, hx, hy, h, h2⟩
    · omega
    · have := cm_lt (HSrt.out.2.1 x hx) (HSrt.out.2.1 y hy) h; omega
  have HF : Hid (∀ x, x ∈ D → ∀ wx, Below w.heap.size w wx → Calls Tryd.prog 25 #[.string ⟨(hexl x m).toArray⟩, .slice a n cap] wx fun e w' => e = .returned (.tuple #[.agg (bs x), .int .i64 0]) ∧ Below wx.heap.size wx w') := (fun x hx wx h => by
    have h2 := find_any ⟨(hexl x m).toArray⟩ (by show (hexl x m).toArray.size ≤ maxLen; simp [hexl_len, maxLen]; omega) a L cap wx hL (by rw [← HN.out]; omega) (HL.out.below hL h)
    rw [findA_lead hL hm64 hleadL ((HSrt.out.2.2 x).1 hx), ← HN.out] at h2
    exact h2)
  have hzs : (bs z32).size = 32 := by rw [bs_size]; rfl
  clear HLe hlead hleadL HSc bld
  go_wp2
  go_loopw [15] (fun i wr => ∃ k : Nat, k ≤ d ∧ i = .int .i64 k ∧ Below wd.heap.size wd wr) (fun i _ => d - (intOf i).toNat)
  case atStart => exact ⟨0, by omega, rfl, Below.refl _ _⟩
  case round =>
    obtain ⟨k, hk, rfl, bel⟩ := hrel
    have bwr : Below w.heap.size w wr := bwd.trans (bel.mono bwd.size)
    by_cases hkn : k < d
    · have hkL : k < D.length := by rw [← HD.out]; exact hkn
      obtain ⟨x, hx⟩ : ∃ x, D[k]? = some x := ⟨_, List.getElem?_eq_getElem hkL⟩
      have hx32 := HSrt.out.2.1.get hx
      have HR : Hid (wr.rangeAt q (32 * k) (hcs x)) := (by have := rangeAt_below (HSd.out k x hx) bel hqd; rwa [Nat.zero_add] at this : wr.rangeAt q (32 * k) (hcs x))
      have hqr : q < wr.heap.size := by have := bel.size; omega
      have ix1 := fun wx => indexH q 0 d d k wx hkn
      simp only [Nat.zero_add] at ix1
      have HX : Hid (∀ wx, Calls Tryd.prog 26 #[.agg (bs x)] wx fun e w' => e = .returned (.string ⟨(hexl x 64).toArray⟩) ∧ Below wx.heap.size wx w') := fun wx => hex_any x hx32 wx
      have hS64 : (⟨(hexl x 64).toArray⟩ : ByteArray).size = 64 := by show (hexl x 64).toArray.size = 64; simp [hexl_len]
      have ss := fun wx => slice_str ⟨(hexl x 64).toArray⟩ m (by omega) wx (by omega)
      simp only [cut_str x m hm64] at ss
      have HF2 : Hid (∀ wx, Below w.heap.size w wx → Calls Tryd.prog 25 #[.string ⟨(hexl x m).toArray⟩, .slice a n cap] wx fun e w' => e = .returned (.tuple #[.agg (bs x), .int .i64 0]) ∧ Below wx.heap.size wx w') := fun wx h => HF.out x (List.mem_of_getElem? hx) wx h
      have eqq : ∀ wx, (Op.equalIn 10000 36 (.agg (bs x)) (.agg (bs x))).run Tryd.prog wx = .ok true wx := fun wx => (by have := eq23 x x hx32 hx32 wx; simpa using this)
      clear hx hS64
      generalize (⟨(hexl x 64).toArray⟩ : ByteArray) = SX at *
      generalize (⟨(hexl x m).toArray⟩ : ByteArray) = TX at *
      go_wp2_with (first
        | (refine wpList_load_mid rfl 36 _ rfl q (32 * k) rfl (hcs x) _ HR.out Tryd.underlying36 rfl (by rw [hcs_len, hx32]; exact hsH) ?_; rw [hcs_arr])
        | fail)
      refine (HX.out _).mono ?_
      rintro e w2' ⟨rfl, bl2⟩
      have bel2 : Below wd.heap.size wd w2' := bel.trans (bl2.mono bel.size)
      have bw2 : Below w.heap.size w w2' := bwd.trans (bel2.mono bwd.size)
      go_wp2_with fail
      refine (HF2.out _ bw2).mono ?_
      rintro e w3' ⟨rfl, bl3⟩
      have bel3 : Below wd.heap.size wd w3' := bel2.trans (bl3.mono bel2.size)
      have R3 : Hid (w3'.rangeAt q (32 * k) (hcs x)) := rangeAt_below (rangeAt_below HR.out bl2 hqr) bl3 (by have := bl2.size; omega)
      go_wp2_with (first
        | (refine wpList_alloc_row rfl 36 rfl (bs z32) (hzH _) ?_)
        | (refine wpList_store_row rfl 36 _ _ rfl w3'.heap.size (bs x) rfl rfl 36 (bs z32) (heap_alloc_new _ _) (by rw [bs_size, hx32]; exact hsH) (by rw [hzs, bs_size, hx32]) (bs_one _) ?_; rw [World.setRow_alloc_new])
        | fail)
      have c4 : (w3'.alloc (.cells (bs x) 36)).rangeAt w3'.heap.size 0 (hcs x) := range_row (heap_alloc_new _ _)
      have b4 : Below w3'.heap.size w3' (w3'.alloc (.cells (bs x) 36)) := (Below.refl _ _).alloc (Nat.le_refl _) _
      have bel4 : Below wd.heap.size wd (w3'.alloc (.cells (bs x) 36)) := bel3.trans (b4.mono bel3.size)
      have R4 : Hid ((w3'.alloc (.cells (bs x) 36)).rangeAt q (32 * k) (hcs x)) := rangeAt_below R3.out b4 (by have := bel3.size; omega)
      have C4 : Hid ((w3'.alloc (.cells (bs x) 36)).rangeAt w3'.heap.size 0 (hcs x)) := c4
      clear c4 b4 R3
      generalize w3'.heap.size = g3' at *
      generalize (w3'.alloc (.cells (bs x) 36)) = w4' at *
      have hne : Nonempty (ExtT w4') := ExtT.some w4'
      refine wp_region_ext (by kernel_rfl) (by kernel_rfl) ?_
      repeat (first
        | (go_big_quiet_want; refine quiet_load_mid 36 _ rfl g3' 0 rfl (bs x) _ (by rintro _ ⟨e, rfl⟩; exact e.range C4.out (hcs_pos hx32)) Tryd.underlying36 rfl (sizeH hx32) ?_; simp only [Act.put, List.setIfInBounds_toArray, List.set_cons_zero, List.set_cons_succ]; go_big_quiet_on)
        | (go_big_quiet_want; refine quiet_load_mid 36 _ rfl q (32 * k) rfl (bs x) _ (by rintro _ ⟨e, rfl⟩; exact e.range R4.out (hcs_pos hx32)) Tryd.underlying36 rfl (sizeH hx32) ?_; simp only [Act.put, List.setIfInBounds_toArray, List.set_cons_zero, List.set_cons_succ]; go_big_quiet_on)
        | go_big_quiet_step (fail))
      refine wpQuiet_nil ?_
      rintro w5' ⟨⟨_, bl5⟩, rfl⟩
      go_wp2
      exact ⟨⟨k + 1, by omega, by go_num, bel4.trans (bl5.mono bel4.size)⟩, by simp [intOf]; omega⟩
    · obtain rfl : k = d := by omega
      go_wp2
      go_ret
      exact ⟨rfl, bwr⟩
end Go.Proofs.YtpalbfkkegaliabDoor

