import Derived.Test.YtepkanibcljdkaaDoorGQQz
import Derived.Lib.ItoaLen
import Derived.Test.YtepkanibcljdkaaDoorGQXa
import Derived.Test.YtepkanibcljdkaaDoorGQXb
import Derived.Lib.TrimAscii
namespace Go.Proofs.YtepkanibcljdkaaDoor
open Go.RowKit
set_option linter.unusedVariables false
set_option linter.unusedSimpArgs false

theorem step_cases {p : St} (h : stepB p = true) : (p.k = 1 ∧ 0 < p.s.size ∧ p.s.size ≤ 64 ∧ Lib.validD p.s.data.toList = true) ∨ (p.k = 2 ∧ 0 ≤ p.n ∧ p.n ≤ 2147483647) ∨ (p.k = 3 ∧ 0 ≤ p.n ∧ p.n ≤ 2147483647) := by
  unfold stepB at h
  split at h
  · next h1 =>
    unfold keyB rightB at h
    simp only [Bool.and_eq_true, decide_eq_true_eq] at h
    exact .inl ⟨h1, h.1.1.1, h.1.1.2, h.1.2.2⟩
  · split at h
    · next h2 =>
      simp only [Bool.and_eq_true, decide_eq_true_eq] at h
      rcases h2 with h2 | h2
      · exact .inr (.inl ⟨h2, h.1.2, h.2⟩)
      · exact .inr (.inr ⟨h2, h.1.2, h.2⟩)
    · cases h
theorem stepT_len {p : St} (h : stepB p = true) : 1 ≤ (stepT p).length ∧ (stepT p).length ≤ 500 := by
  have hs : p.s.data.toList.length = p.s.size := Array.length_toList
  unfold stepT
  rcases step_cases h with ⟨h1, h2, h3, h4⟩ | ⟨h1, h2, h3⟩ | ⟨h1, h2, h3⟩
  · rw [if_neg (by omega), if_neg (by omega)]
    have := Q.quoL_len p.s.data.toList
    split <;> simp <;> omega
  · have := Lib.itoa_length_le p.n (by omega) (by omega)
    rw [if_pos h1]
    simp
    omega
  · have := Lib.itoa_length_le p.n (by omega) (by omega)
    rw [if_neg (by omega), if_pos h1]
    simp
    omega
theorem astep_any (base : Nat) (v : Value) (L : List UInt8) (p : St) (w : World) (hown : Q.OwnB w base v L) (hbase : base ≤ w.heap.size) (hlen : L.length + 1000 ≤ 140737488355328) (hP : PowB base w) (hTB : ∀ wx, Below base w wx → Q.Tabs wx) (hp : stepB p = true) :
    Calls Tryd.prog 17 #[v, .agg #[.int .u8 p.k, .string p.s, .int .i64 p.n]] w fun e w' => ∃ v', e = .returned v' ∧ Q.OwnB w' base v' (L ++ stepT p) ∧ Below base w w' := by
  obtain ⟨k, s, n⟩ := p
  rcases step_cases hp with ⟨h1, h2, h3, h4⟩ | ⟨h1, h2, h3⟩ | ⟨h1, h2, h3⟩ <;> simp only [] at h1 h2 h3 <;> subst h1
  · exact astep_key base v L s n w hown hbase hlen h3 h4 hTB
  · exact astep_idx base v L s n w hown hbase hlen h2 h3 hP (Lib.itoa_length_le n (by omega) (by omega))
  · exact astep_kid base v L s n w hown hbase hlen h2 h3 hP (Lib.itoa_length_le n (by omega) (by omega))
/-- The text of a way. -/
def printL (l : List St) : List UInt8 := if l.length = 0 then [47] else l.flatMap stepT
theorem flat_succ {l : List St} {k : Nat} {p : St} (h : l[k]? = some p) : (l.take (k + 1)).flatMap stepT = (l.take k).flatMap stepT ++ stepT p := by
  rw [List.take_add_one, h]
  simp
theorem rightL_zero {l : List St} (h : rightL l = 0) : l.length ≤ 32 ∧ ∀ (i : Nat) (p : St), l[i]? = some p → stepB p = true := by
  unfold rightL at h
  split at h
  · omega
  · split at h
    · next h1 h2 => exact ⟨by omega, fun i p hi => List.all_eq_true.1 h2 p (List.mem_of_getElem? hi)⟩
    · omega
abbrev PowW (w : World) : Prop := Lib.TabIs Tryd.prog w "internal/strconv.uint64pow10" .u64 Lib.pow10Tab
def strOf (l : List St) : ByteArray := if rightL l = 0 then ⟨(printL l).toArray⟩ else ⟨#[]⟩
set_option maxRecDepth 100000 in
set_option maxHeartbeats 1000000 in
theorem print_any (a : Option Addr) (l : List St) (c : Nat) (w : World) (ha : Sts w a l) (hl : l.length ≤ 140737488355328) (hT : K.V.Tabs w) (a0 a1 a2 : Addr) (hE : Snt w a0 a1 a2) (hP : PowB w.heap.size w) :
    Calls Tryd.prog 9 #[.slice a l.length c] w fun e w' => e = .returned (.tuple #[.string (strOf l), .int .i64 (rightL l)]) ∧ Below w.heap.size w w' := by
  have HR := Hid.mk' (right_l a l c w ha hl hT a0 a1 a2 hE)
  by_cases hR : rightL l = 0
  · obtain ⟨h32, hall⟩ := rightL_zero hR
    have HA := Hid.mk' (fun wx (h : Below w.heap.size w wx) => ha.below h)
    have HALL := Hid.mk' hall
    have HP := Hid.mk' (fun wx (h : Below w.heap.size w wx) => Lib.TabBelow.on hP h)
    have HT : Hid (∀ wx, Below w.heap.size w wx → Q.Tabs wx) := fun wx h => hT.below h
    have hst : strOf l = ⟨(printL l).toArray⟩ := by unfold strOf; rw [if_pos hR]
    rw [hst, hR]
    rw [hR] at HR
    obtain ⟨n, hn⟩ : ∃ n, n = l.length := ⟨_, rfl⟩
    obtain ⟨PL, hPL⟩ : ∃ P, P = printL l := ⟨_, rfl⟩
    have HPL : Hid ((n = 0 → PL = [47]) ∧ (n ≠ 0 → PL = l.flatMap stepT)) := by
      rw [hn, hPL]
      exact ⟨fun h => by unfold printL; rw [if_pos h], fun h => by unfold printL; rw [if_neg h]⟩
    rw [← hPL, ← hn]
    rw [← hn] at h32 HR hl
    have HN := Hid.mk' hn
    clear ha hT hE hP hall hst hR hn hPL
    by_cases h0 : n = 0
    · subst h0
      have HP0 := Hid.mk' (HPL.out.1 rfl)
      clear HPL
      go_enter Tryd.func9, Tryd.ntmps9
      go_wp2_with fail
      refine HR.out.mono ?_
      rintro e w1 ⟨rfl, b1⟩
      go_wp2
      go_ret2
      exact ⟨by rw [HP0.out]; rfl, b1⟩
    · have HP1 := Hid.mk' (HPL.out.2 h0)
      have h0' : ((n : Int) == 0) = false := by rw [beq_eq_false_iff_ne]; omega
      have H0 := Hid.mk' h0
      clear HPL h0
      go_enter Tryd.func9, Tryd.ntmps9
      go_wp2_with fail
      refine HR.out.mono ?_
      rintro e w1 ⟨rfl, b1⟩
      have BW1 := Hid.mk' b1
      have ON := Hid.mk' (Q.ownB_nil w1 w.heap.size)
      clear HR b1
      go_wp2
      go_loopw [5, 18] (fun v i wr => ∃ k : Nat, k ≤ n ∧ i = .int .i64 k ∧ Hid (Below w.heap.size w wr) ∧ Hid (Q.OwnB wr w.heap.size v ((l.take k).flatMap stepT)) ∧ Hid (k ≤ ((l.take k).flatMap stepT).length ∧ ((l.take k).flatMap stepT).length ≤ 500 * k)) (fun _ i _ => n - (intOf i).toNat)
      case atStart => exact ⟨0, by omega, rfl, BW1, ON, by simp [Hid]⟩
      case round =>
        obtain ⟨k, hk, rfl, HW, HO, HL⟩ := hrel
        by_cases hkn : k < n
        · have hkn' : (k : Int) < (n : Int) := by omega
          obtain ⟨b1, o1, p, rfl, hp, c0, c1, c2⟩ := (HA.out wr HW.out).at (i := k) (by rw [← HN.out]; omega)
          have hst := HALL.out k p hp
          have hln := stepT_len hst
          have HF := Hid.mk' (flat_succ hp)
          have ix := fun wx => indexS b1 o1 n c k wx hkn
          obtain ⟨W1, hW1⟩ : ∃ W, W = wr.alloc (.cells #[.int .u8 p.k, .string p.s, .int .i64 p.n] 35) := ⟨_, rfl⟩
          have bw1 : Below wr.heap.size wr W1 := by rw [hW1]; exact (Below.refl _ _).alloc (Nat.le_refl _) _
          have bww : Below w.heap.size w W1 := HW.out.trans (bw1.mono HW.out.size)
          obtain ⟨T, hTT⟩ : ∃ T, T = (l.take k).flatMap stepT := ⟨_, rfl⟩
          rw [← hTT] at HF HO HL
          obtain ⟨va, vc, rfl, _, _, _⟩ := HO.out.open
          have HS := Hid.mk' (astep_any w.heap.size (.slice va T.length vc) T p W1 (HO.out.below bw1) bww.size (by have := HL.out.2; omega) (HP.out W1 bww) (fun wx h => HT.out wx (bww.trans h)) hst)
          have HWW := Hid.mk' bww
          have HL2 : Hid (k + 1 ≤ (T ++ stepT p).length ∧ (T ++ stepT p).length ≤ 500 * (k + 1)) := by show _ ∧ _; have := HL.out; simp only [List.length_append]; omega
          obtain ⟨pk, ps, pn⟩ := p
          simp only [] at c0 c1 c2
          rw [hW1] at HS HWW
          clear hp hst hln bw1 bww hW1 hTT HO HL
          generalize T.length = tl at *
          go_wp2_with fail
          refine HS.out.mono ?_
          rintro e w2 ⟨v2, rfl, own2, b2⟩
          have BW2 : Hid (Below w.heap.size w w2) := HWW.out.trans b2
          have O2 : Hid (Q.OwnB w2 w.heap.size v2 ((l.take (k + 1)).flatMap stepT)) := by show Q.OwnB _ _ _ _; rw [HF.out]; exact own2
          rw [← HF.out] at HL2
          obtain ⟨va2, vc2, rfl, _, _, _⟩ := own2.open
          clear own2 b2 HS HWW HF
          generalize (T ++ stepT ⟨pk, ps, pn⟩).length = tl2 at *
          go_wp2
          go_roundw
          case rel => exact ⟨k + 1, by omega, by go_num, BW2, O2, HL2⟩
          case measure => simp [intOf]; omega
        · obtain rfl : k = n := by omega
          have hkn' : ¬ (k : Int) < (k : Int) := by omega
          have hO := HO.out
          rw [List.take_of_length_le (by rw [← HN.out]; exact Nat.le_refl _)] at hO
          have hLL := HL.out
          rw [List.take_of_length_le (by rw [← HN.out]; exact Nat.le_refl _)] at hLL
          rw [← HP1.out] at hO hLL
          have h0n := H0.out
          obtain ⟨g1, d1, rfl, hc1, hcl, _, _⟩ := hO.open1 (by omega)
          clear h0n
          have hcv := run_convert_bytes_back (P := Tryd.prog) wr 36 9 5 ⟨g1, 0, none⟩ d1 PL Tryd.underlying36 Tryd.underlying5 Tryd.underlying9 (fun j hj => by
            have e : (⟨g1, 0, none⟩ : Addr).add j = ⟨g1, j, none⟩ := by simpa using Addr.add_mid g1 0 j
            rw [e, hcl j hj]
            simp [Q.at8, List.getElem?_eq_getElem hj])
          clear hO hLL hc1 hcl HO HL HA HALL HP HT HP1
          go_wp2
          go_ret2
          exact ⟨rfl, HW.out⟩
  · have hst : strOf l = ⟨#[]⟩ := by unfold strOf; rw [if_neg hR]
    rw [hst]
    clear ha hT hE hP hst
    generalize rightL l = R at *
    generalize l.length = n at *
    go_enter Tryd.func9, Tryd.ntmps9
    go_wp2_with fail
    refine HR.out.mono ?_
    rintro e w1 ⟨rfl, b1⟩
    go_wp2
    go_ret2
    exact ⟨rfl, b1⟩
end Go.Proofs.YtepkanibcljdkaaDoor

namespace Go.Proofs.YtepkanibcljdkaaDoor
open Go.RowKit
set_option linter.unusedVariables false
set_option linter.unusedSimpArgs false

theorem okC_plain {c : Nat} (h : plC c = true) : okC c = true := by
  unfold plC at h
  unfold okC
  simp only [Bool.or_eq_true, Bool.and_eq_true, decide_eq_true_eq] at h ⊢
  omega
theorem plain_low {c : Nat} (h : plC c = true) : c < 128 := by
  unfold plC at h
  simp only [Bool.or_eq_true, Bool.and_eq_true, decide_eq_true_eq] at h
  omega
theorem valid_plain (l : List UInt8) (h : ∀ c ∈ l, plC c.toNat = true) : Lib.validD l = true := by
  induction l with
  | nil => rfl
  | cons a l ih =>
    have ha := plain_low (h a (by simp))
    rw [Lib.validD_step _ (by simp), Lib.decodeL_ascii a l ha]
    rw [if_neg (by simp only []; omega)]
    exact ih (fun c hc => h c (List.mem_cons_of_mem _ hc))
theorem k8_drop (t : ByteArray) (i j : Nat) : K.V.by8 t (i + j) = ((t.data.toList.drop i).getD j 0).toNat := by
  unfold K.V.by8
  rw [List.getD_eq_getElem?_getD, List.getD_eq_getElem?_getD, List.getElem?_drop]
theorem dec_small {u : Nat} (h : u < 10) : Lib.decDigits u = [UInt8.ofNat (48 + u)] := by rw [Lib.decDigits, dif_pos h]
theorem dec_big {u : Nat} (h : ¬ u < 10) : Lib.decDigits u = Lib.decDigits (u / 10) ++ [UInt8.ofNat (48 + u % 10)] := by rw [Lib.decDigits, dif_neg h]
theorem dec_ne (u : Nat) : 1 ≤ (Lib.decDigits u).length := by
  by_cases h : u < 10
  · rw [dec_small h]; simp
  · rw [dec_big h]; simp
theorem dec_head (n : Nat) : ∀ u, u ≤ n → 1 ≤ u → ((Lib.decDigits u).getD 0 0).toNat ≠ 48 := by
  induction n with
  | zero => intro u h1 h2; omega
  | succ n ih =>
    intro u h1 h2
    by_cases h : u < 10
    · rw [dec_small h]
      simp
      omega
    · rw [dec_big h]
      have hl := dec_ne (u / 10)
      have := ih (u / 10) (by omega) (by omega)
      rw [List.getD_eq_getElem?_getD, List.getElem?_append_left (by omega), ← List.getD_eq_getElem?_getD]
      exact this
theorem digit_yes {c : Nat} (h1 : 48 ≤ c) (h2 : c ≤ 57) : dgC c = true := by unfold dgC; simp; omega
theorem num_eat (s : ByteArray) (k0 : Nat) : ∀ (n u F : Nat) (B : List UInt8), u ≤ n → u ≤ 2147483647 → s.data.toList.drop k0 = Lib.decDigits u ++ B → (Lib.decDigits u).length ≤ F →
    numP s k0 F k0 0 = numP s k0 (F - (Lib.decDigits u).length) (k0 + (Lib.decDigits u).length) u := by
  intro n
  induction n with
  | zero =>
    intro u F B h1 h2 hd hF
    obtain rfl : u = 0 := by omega
    have e := dec_small (u := 0) (by omega)
    rw [e] at hd hF ⊢
    simp only [List.length_singleton] at hF ⊢
    have b := k8_drop s k0 0
    rw [Nat.add_zero, hd] at b
    simp at b
    obtain ⟨G, rfl⟩ : ∃ G, F = G + 1 := ⟨F - 1, by omega⟩
    rw [numP_go (by rw [b]; decide) (by rw [b]; omega), b]
    rfl
  | succ n ih =>
    intro u F B h1 h2 hd hF
    by_cases h : u < 10
    · have e := dec_small h
      rw [e] at hd hF ⊢
      simp only [List.length_singleton] at hF ⊢
      have b := k8_drop s k0 0
      rw [Nat.add_zero, hd] at b
      have b' : K.V.by8 s k0 = 48 + u := by rw [b]; simp; omega
      obtain ⟨G, rfl⟩ : ∃ G, F = G + 1 := ⟨F - 1, by omega⟩
      rw [numP_go (digit_yes (by omega) (by omega)) (by omega), b', show 0 * 10 + (48 + u - 48) = u by omega]
      rfl
    · have e := dec_big h
      have hl := dec_ne (u / 10)
      have hh := dec_head (u / 10) (u / 10) (Nat.le_refl _) (by omega)
      rw [e, List.append_assoc] at hd
      rw [e, List.length_append, List.length_singleton] at hF ⊢
      rw [ih (u / 10) F _ (by omega) (by omega) hd (by omega)]
      generalize Lib.decDigits (u / 10) = D at *
      have b0 := k8_drop s k0 0
      rw [Nat.add_zero, hd, List.getD_eq_getElem?_getD, List.getElem?_append_left (by omega), ← List.getD_eq_getElem?_getD] at b0
      have b := k8_drop s k0 D.length
      rw [hd, List.getD_eq_getElem?_getD, List.getElem?_append_right (Nat.le_refl _), Nat.sub_self] at b
      have b' : K.V.by8 s (k0 + D.length) = 48 + u % 10 := by rw [b]; simp; omega
      obtain ⟨G, hG⟩ : ∃ G, F - D.length = G + 1 := ⟨F - D.length - 1, by omega⟩
      rw [hG, numP_go (digit_yes (by omega) (by omega)) (by omega), b', show u / 10 * 10 + (48 + u % 10 - 48) = u by omega, show F - (D.length + 1) = G by omega, Nat.add_assoc]
/-- A number that was written is read. -/
theorem num_fwd (s : ByteArray) (k0 u : Nat) (B : List UInt8) (hu : u ≤ 2147483647) (hd : s.data.toList.drop k0 = Lib.decDigits u ++ B) (hB : B = [] ∨ dgC (B.getD 0 0).toNat = false) (hk : k0 ≤ s.size) :
    numP s k0 (s.size - k0) k0 0 = (u, k0 + (Lib.decDigits u).length, true) := by
  have hz : s.data.toList.length = s.size := Array.length_toList
  have hlen := congrArg List.length hd
  rw [List.length_drop, List.length_append] at hlen
  have hl := dec_ne u
  rw [num_eat s k0 u u (s.size - k0) B (Nat.le_refl _) hu hd (by omega), numP_end, if_neg (by omega)]
  rcases hB with rfl | hB
  · left; simp at hlen; omega
  · right
    rw [k8_drop, hd, List.getD_eq_getElem?_getD, List.getElem?_append_right (Nat.le_refl _), Nat.sub_self, ← List.getD_eq_getElem?_getD]
    exact hB
theorem take_more {l : List UInt8} {j : Nat} {b : Nat} (hj : j < l.length) (hb : (l.getD j 0).toNat = b) : l.take j ++ [UInt8.ofNat b] = l.take (j + 1) := by
  rw [List.take_add_one]
  congr 1
  rw [List.getElem?_eq_getElem hj]
  rw [List.getD_eq_getElem?_getD, List.getElem?_eq_getElem hj] at hb
  simp at hb
  rw [← hb]
  simp
/-- A number that is read is written so. -/
theorem num_back (s : ByteArray) (k0 : Nat) : ∀ (f k n a p : Nat), k + f = s.size → n ≤ 2147483647 → ((k = k0 ∧ n = 0) ∨ (k0 < k ∧ Lib.decDigits n = (s.data.toList.drop k0).take (k - k0) ∧ (n = 0 → K.V.by8 s k0 = 48))) → numP s k0 f k n = (a, p, true) →
    k0 < p ∧ p ≤ s.size ∧ a ≤ 2147483647 ∧ Lib.decDigits a = (s.data.toList.drop k0).take (p - k0)
  | 0, k, n, a, p, h1, hn, hi, h => by
    unfold numP at h
    split at h
    · cases h
    · next hne =>
      cases h
      rcases hi with hi | hi
      · exact absurd hi.1 hne
      · exact ⟨hi.1, by omega, hn, hi.2.1⟩
  | f + 1, k, n, a, p, h1, hn, hi, h => by
    have hz : s.data.toList.length = s.size := Array.length_toList
    cases hd : dgC (K.V.by8 s k) with
    | true =>
      by_cases hb : 2147483647 < n * 10 + (K.V.by8 s k - 48) ∨ (k0 < k ∧ K.V.by8 s k0 = 48)
      · rw [numP_bad hd hb] at h; cases h
      · rw [numP_go hd hb] at h
        simp only [not_or] at hb
        unfold dgC at hd
        simp only [Bool.and_eq_true, decide_eq_true_eq] at hd
        refine num_back s k0 f (k + 1) _ a p (by omega) (by omega) (.inr ?_) h
        rcases hi with ⟨rfl, rfl⟩ | ⟨hlt, hdig, h0⟩
        · refine ⟨by omega, ?_, fun h => by omega⟩
          rw [dec_small (by omega), show 48 + (0 * 10 + (K.V.by8 s k - 48)) = K.V.by8 s k by omega, show k + 1 - k = 0 + 1 by omega, ← take_more (by rw [List.length_drop]; omega) (k8_drop s k 0).symm, Nat.add_zero]
          simp
        · have hn1 : 1 ≤ n := by
            rcases Nat.eq_zero_or_pos n with h | h
            · exact absurd ⟨hlt, h0 h⟩ hb.2
            · exact h
          refine ⟨by omega, ?_, fun h => by omega⟩
          rw [dec_big (by omega), show (n * 10 + (K.V.by8 s k - 48)) / 10 = n by omega, hdig, show 48 + (n * 10 + (K.V.by8 s k - 48)) % 10 = K.V.by8 s k by omega, show k + 1 - k0 = k - k0 + 1 by omega]
          refine take_more (by rw [List.length_drop]; omega) ?_
          rw [← k8_drop, show k0 + (k - k0) = k by omega]
    | false =>
      rw [numP_end (.inr hd)] at h
      split at h
      · cases h
      · next hne =>
        cases h
        rcases hi with hi | hi
        · exact absurd hi.1 hne
        · exact ⟨hi.1, by omega, hn, hi.2.1⟩
theorem num_back0 {s : ByteArray} {k0 a p : Nat} (hk : k0 ≤ s.size) (h : numP s k0 (s.size - k0) k0 0 = (a, p, true)) : k0 < p ∧ p ≤ s.size ∧ a ≤ 2147483647 ∧ Lib.decDigits a = (s.data.toList.drop k0).take (p - k0) :=
  num_back s k0 (s.size - k0) k0 0 a p (by omega) (by omega) (.inl ⟨rfl, rfl⟩) h
theorem itoa_dec {n : Int} (h : 0 ≤ n) : Lib.itoa n = Lib.decDigits n.toNat := by unfold Lib.itoa; rw [if_neg (by omega)]
theorem tw_app {f : UInt8 → Bool} : ∀ (l B : List UInt8), (∀ x ∈ l, f x = true) → (B = [] ∨ f (B.getD 0 0) = false) → ((l ++ B).takeWhile f).length = l.length
  | [], B, _, hB => by
    rcases hB with rfl | hB
    · rfl
    · cases B with
      | nil => rfl
      | cons b B => simp at hB; simp [List.takeWhile_cons, hB]
  | a :: l, B, h, hB => by
    have := tw_app l B (fun x hx => h x (List.mem_cons_of_mem _ hx)) hB
    simp [List.takeWhile_cons, h a (by simp), this]
/-- What may stand behind a step: nothing, or the next one. -/
def Beh (B : List UInt8) : Prop := B = [] ∨ (B.getD 0 0).toNat = 47 ∨ (B.getD 0 0).toNat = 91 ∨ (B.getD 0 0).toNat = 126
theorem Beh.digit {B : List UInt8} (h : Beh B) : B = [] ∨ dgC (B.getD 0 0).toNat = false := by
  rcases h with h | h | h | h
  · exact .inl h
  all_goals (right; rw [h]; decide)
theorem Beh.plain {B : List UInt8} (h : Beh B) : B = [] ∨ plC (B.getD 0 0).toNat = false := by
  rcases h with h | h | h | h
  · exact .inl h
  all_goals (right; rw [h]; decide)
theorem arr_list (s : ByteArray) : (⟨s.data.toList.toArray⟩ : ByteArray) = s := by cases s; simp
theorem key_shown {s : ByteArray} (h : keyB s = true) : 0 < s.size ∧ s.size ≤ 64 ∧ Lib.validD s.data.toList = true ∧ ∀ c ∈ s.data.toList, Q.X.shown c = true := by
  unfold keyB rightB plainB at h
  simp only [Bool.and_eq_true, decide_eq_true_eq, List.all_eq_true] at h
  exact ⟨h.1.1, h.1.2, h.2.2, fun c hc => h.2.1 c hc⟩
/-- A key that was written is read. -/
theorem ky_fwd (s key : ByteArray) (k0 : Nat) (B : List UInt8) (hk : k0 ≤ s.size) (hkey : keyB key = true) (hB : Beh B) (hd : s.data.toList.drop k0 = (if plS key = true then key.data.toList else Q.quoL key.data.toList) ++ B) :
    kyP s k0 = (key, k0 + (if plS key = true then key.data.toList else Q.quoL key.data.toList).length, true) := by
  have hz : s.data.toList.length = s.size := Array.length_toList
  have hzk : key.data.toList.length = key.size := Array.length_toList
  obtain ⟨k1, k2, k3, k4⟩ := key_shown hkey
  have hlen := congrArg List.length hd
  rw [List.length_drop, List.length_append] at hlen
  have et : (s.extract k0 s.size).data.toList = s.data.toList.drop k0 := Lib.ext_list s k0
  have b := k8_drop s k0 0
  rw [Nat.add_zero] at b
  cases hp : plS key with
  | true =>
    rw [if_pos hp] at hd hlen
    rw [if_pos rfl]
    unfold plS at hp
    rw [List.all_eq_true] at hp
    have hn : plN (s.extract k0 s.size) = key.size := by
      unfold plN
      rw [et, hd, tw_app _ _ hp hB.plain, hzk]
    have h34 : ¬ (k0 < s.size ∧ K.V.by8 s k0 = 34) := by
      rintro ⟨_, h⟩
      rw [b, hd] at h
      obtain ⟨x, y, hxy⟩ := List.exists_cons_of_length_pos (l := key.data.toList) (by omega)
      rw [hxy] at h hp
      have := hp x (by simp)
      simp at h
      rw [h] at this
      revert this
      decide
    unfold kyP
    rw [if_neg h34, hn, if_neg (by omega), if_neg (by omega), hzk]
    congr 1
    apply ba_ext
    have e : (s.extract k0 (k0 + key.size)).data.toList = (s.data.toList.drop k0).take key.size := by
      simp [ByteArray.data_extract]
    rw [e, hd, ← hzk, List.take_left]
  | false =>
    rw [if_neg (by rw [hp]; decide)] at hd hlen
    rw [if_neg (by decide)]
    have hq : K.V.by8 s k0 = 34 := by rw [b, hd]; simp [Q.quoL]
    have hl2 : 2 ≤ (Q.quoL key.data.toList).length := by simp [Q.quoL]
    unfold kyP
    rw [if_pos ⟨by omega, hq⟩]
    unfold quP
    have hb := Q.X.quo_back (s.extract k0 s.size) key.data.toList B k3 k4 (by rw [et, hd])
    rw [hb, if_neg (by simp)]
    simp only [arr_list]
    rw [if_neg (by rw [hkey, hp]; decide), Int.toNat_natCast]
theorem ix_fwd (s : ByteArray) (k0 u : Nat) (B : List UInt8) (hk : k0 ≤ s.size) (hu : u ≤ 2147483647) (hd : s.data.toList.drop k0 = Lib.decDigits u ++ 93 :: B) : ixP s k0 = (u, k0 + (Lib.decDigits u).length + 1, true) := by
  have hz : s.data.toList.length = s.size := Array.length_toList
  have hlen := congrArg List.length hd
  rw [List.length_drop, List.length_append, List.length_cons] at hlen
  have e := num_fwd s k0 u (93 :: B) hu hd (.inr (by simp; decide)) hk
  have b : K.V.by8 s (k0 + (Lib.decDigits u).length) = 93 := by
    rw [k8_drop, hd, List.getD_eq_getElem?_getD, List.getElem?_append_right (Nat.le_refl _), Nat.sub_self]
    rfl
  unfold ixP
  rw [e]
  simp only [Bool.true_eq_false, if_false]
  rw [if_neg (by rw [b]; omega)]
theorem empty_ba {s : ByteArray} (h : s.size = 0) : s = ⟨#[]⟩ := by
  apply ba_ext
  exact List.eq_nil_of_length_eq_zero (by rw [Array.length_toList]; exact h)
/-- A step that was written is read. -/
theorem st_fwd (s : ByteArray) (k : Nat) (p : St) (B : List UInt8) (hp : stepB p = true) (hB : Beh B) (hd : s.data.toList.drop k = stepT p ++ B) : stP s k = (p, k + (stepT p).length, true) := by
  have hz : s.data.toList.length = s.size := Array.length_toList
  have hlen := congrArg List.length hd
  rw [List.length_drop, List.length_append] at hlen
  have b := k8_drop s k 0
  rw [Nat.add_zero, hd] at b
  obtain ⟨pk, ps, pn⟩ := p
  unfold stepB at hp
  simp only [] at hp
  split at hp
  · next h1 =>
    subst h1
    simp only [Bool.and_eq_true, decide_eq_true_eq] at hp
    obtain ⟨hkey, rfl⟩ := hp
    have e : stepT ⟨1, ps, 0⟩ = 47 :: (if plS ps = true then ps.data.toList else Q.quoL ps.data.toList) := by
      unfold stepT
      rw [if_neg (by simp), if_neg (by simp)]
      rfl
    rw [e] at hd hlen b ⊢
    simp at b hlen
    have hd1 : s.data.toList.drop (k + 1) = (if plS ps = true then ps.data.toList else Q.quoL ps.data.toList) ++ B := by
      rw [← List.drop_drop, hd]; rfl
    have hy := ky_fwd s ps (k + 1) B (by omega) hkey hB hd1
    unfold stP
    rw [if_pos b, hy]
    simp only [List.length_cons]
    congr 2
    omega
  · split at hp
    · next h1 h2 =>
      simp only [Bool.and_eq_true, decide_eq_true_eq] at hp
      obtain ⟨⟨hs0, hn0⟩, hn1⟩ := hp
      obtain rfl := empty_ba hs0
      obtain ⟨u, rfl⟩ : ∃ u : Nat, pn = (u : Int) := ⟨pn.toNat, by omega⟩
      rcases h2 with rfl | rfl
      · have e : stepT ⟨2, ⟨#[]⟩, (u : Int)⟩ = 91 :: (Lib.decDigits u ++ [93]) := by
          unfold stepT
          rw [if_pos rfl, itoa_dec hn0, Int.toNat_natCast]
          rfl
        rw [e] at hd hlen b ⊢
        simp at b hlen
        have hd1 : s.data.toList.drop (k + 1) = Lib.decDigits u ++ 93 :: B := by
          rw [← List.drop_drop, hd]; simp
        have hx := ix_fwd s (k + 1) u B (by omega) (by omega) hd1
        unfold stP
        rw [if_neg (by rw [b]; decide), if_pos b, hx]
        simp only [List.length_cons, List.length_append, List.length_nil]
        congr 2
        omega
      · have e : stepT ⟨3, ⟨#[]⟩, (u : Int)⟩ = 126 :: Lib.decDigits u := by
          unfold stepT
          rw [if_neg (by simp), if_pos rfl, itoa_dec hn0, Int.toNat_natCast]
          rfl
        rw [e] at hd hlen b ⊢
        simp at b hlen
        have hd1 : s.data.toList.drop (k + 1) = Lib.decDigits u ++ B := by
          rw [← List.drop_drop, hd]; simp
        have hx := num_fwd s (k + 1) u B (by omega) hd1 hB.digit (by omega)
        unfold stP
        rw [if_neg (by rw [b]; decide), if_neg (by rw [b]; decide), if_pos b, hx]
        simp only [List.length_cons]
        congr 2
        omega
    · cases hp
theorem stepT_head (p : St) : ∃ c r, stepT p = c :: r ∧ (c.toNat = 47 ∨ c.toNat = 91 ∨ c.toNat = 126) := by
  unfold stepT
  split
  · exact ⟨91, Lib.itoa p.n ++ [93], rfl, .inr (.inl rfl)⟩
  · split
    · exact ⟨126, Lib.itoa p.n, rfl, .inr (.inr rfl)⟩
    · exact ⟨47, if plS p.s = true then p.s.data.toList else Q.quoL p.s.data.toList, rfl, .inl rfl⟩
theorem beh_flat (L : List St) : Beh (L.flatMap stepT) := by
  cases L with
  | nil => exact .inl rfl
  | cons p L =>
    obtain ⟨c, r, e, h⟩ := stepT_head p
    right
    rw [List.flatMap_cons, e]
    simpa using h
/-- A way that was written is read. -/
theorem rP_fwd (s : ByteArray) : ∀ (L : List St) (f k : Nat) (acc : List St), L ≠ [] → (∀ x ∈ L, stepB x = true) → s.data.toList.drop k = L.flatMap stepT → s.size + 1 ≤ k + f → acc.length + L.length ≤ 32 → rP s f k acc = (acc ++ L, s.size, true)
  | [], f, k, acc, h0, _, _, _, _ => absurd rfl h0
  | p :: L, f, k, acc, h0, hr, hd, hf, hl => by
    have hz : s.data.toList.length = s.size := Array.length_toList
    have hlen := congrArg List.length hd
    rw [List.flatMap_cons] at hd
    rw [List.flatMap_cons, List.length_drop, List.length_append] at hlen
    have e := st_fwd s k p _ (hr p (by simp)) (beh_flat L) hd
    obtain ⟨c, r, ec, _⟩ := stepT_head p
    have h1 : 1 ≤ (stepT p).length := by rw [ec]; simp
    rw [List.length_cons] at hl
    obtain ⟨g, rfl⟩ : ∃ g, f = g + 1 := ⟨f - 1, by omega⟩
    rw [rP, if_neg (by omega), e, if_neg (by simp)]
    simp only []
    cases L with
    | nil =>
      simp at hlen
      rw [if_neg (by omega), show k + (stepT p).length = s.size by omega]
    | cons q L =>
      obtain ⟨c2, r2, ec2, _⟩ := stepT_head q
      have h2 : 1 ≤ ((q :: L).flatMap stepT).length := by rw [List.flatMap_cons, ec2]; simp
      rw [if_pos (by omega)]
      have hd2 : s.data.toList.drop (k + (stepT p).length) = (q :: L).flatMap stepT := by
        rw [← List.drop_drop, hd, List.drop_left]
      rw [rP_fwd s (q :: L) g _ _ (by simp) (fun x hx => hr x (List.mem_cons_of_mem _ hx)) hd2 (by omega) (by rw [List.length_append]; simp at hl ⊢; omega)]
      simp
theorem esc_two {c : UInt8} (h : Q.X.shown c = true) : (Q.escB c).length ≤ 2 := by
  unfold Q.X.shown at h
  simp only [Bool.and_eq_true, decide_eq_true_eq] at h
  have n10 : c ≠ 10 := fun e => by rw [e] at h; simp at h
  have n13 : c ≠ 13 := fun e => by rw [e] at h; simp at h
  have n9 : c ≠ 9 := fun e => by rw [e] at h; simp at h
  have n127 : c ≠ 127 := fun e => by rw [e] at h; simp at h
  unfold Q.escB
  split
  · simp
  · first
      | (rw [if_neg n10, if_neg n13, if_neg n9, if_neg (by rintro (h | h); omega; exact n127 h)]; simp)
      | (rw [if_neg (by rintro (h | h); omega; exact n127 h)]; simp)
theorem flat_two (l : List UInt8) (h : ∀ c ∈ l, Q.X.shown c = true) : (l.flatMap Q.escB).length ≤ 2 * l.length := by
  induction l with
  | nil => simp
  | cons a l ih =>
    have h1 := esc_two (h a (by simp))
    have h2 := ih (fun c hc => h c (List.mem_cons_of_mem _ hc))
    rw [List.flatMap_cons, List.length_append, List.length_cons]
    omega
theorem stepT_140 {p : St} (h : stepB p = true) : (stepT p).length ≤ 140 ∧ 2 ≤ (stepT p).length := by
  unfold stepB at h
  split at h
  · next h1 =>
    simp only [Bool.and_eq_true, decide_eq_true_eq] at h
    obtain ⟨k1, k2, k3, k4⟩ := key_shown h.1
    have hzk : p.s.data.toList.length = p.s.size := Array.length_toList
    have hf := flat_two _ k4
    unfold stepT
    rw [if_neg (by omega), if_neg (by omega)]
    split
    · simp; omega
    · simp [Q.quoL] at hf ⊢; omega
  · split at h
    · next h1 h2 =>
      simp only [Bool.and_eq_true, decide_eq_true_eq] at h
      have hl := Lib.itoa_length_le p.n (by omega) (by omega)
      have h3 := dec_ne p.n.toNat
      rw [← itoa_dec h.1.2] at h3
      unfold stepT
      rcases h2 with h2 | h2
      · rw [if_pos h2]; simp; omega
      · rw [if_neg (by omega), if_pos h2]; simp; omega
    · cases h
theorem flat_140 (L : List St) (h : ∀ x ∈ L, stepB x = true) : (L.flatMap stepT).length ≤ 140 * L.length ∧ 2 * L.length ≤ (L.flatMap stepT).length := by
  induction L with
  | nil => simp
  | cons a L ih =>
    have h1 := stepT_140 (h a (by simp))
    have h2 := ih (fun c hc => h c (List.mem_cons_of_mem _ hc))
    rw [List.flatMap_cons, List.length_append, List.length_cons]
    omega
theorem tw_take {f : UInt8 → Bool} : ∀ l : List UInt8, l.take (l.takeWhile f).length = l.takeWhile f
  | [] => rfl
  | a :: l => by
    cases h : f a with
    | true => simp [List.takeWhile_cons, h, tw_take l]
    | false => simp [List.takeWhile_cons, h]
theorem tw_mem {f : UInt8 → Bool} : ∀ (l : List UInt8) (c : UInt8), c ∈ l.takeWhile f → f c = true
  | [], c, h => by simp at h
  | a :: l, c, h => by
    cases ha : f a with
    | true =>
      simp only [List.takeWhile_cons, ha, if_true] at h
      rcases List.mem_cons.1 h with rfl | h
      · exact ha
      · exact tw_mem l c h
    | false => simp [List.takeWhile_cons, ha] at h
theorem ky_back (s : ByteArray) (k0 : Nat) (key : ByteArray) (p : Nat) (hk : k0 ≤ s.size) (h : kyP s k0 = (key, p, true)) : keyB key = true ∧ k0 < p ∧ p ≤ s.size ∧ (if plS key = true then key.data.toList else Q.quoL key.data.toList) = (s.data.toList.drop k0).take (p - k0) := by
  have hz : s.data.toList.length = s.size := Array.length_toList
  have zt : (s.extract k0 s.size).size = s.size - k0 := Lib.ext_size s k0
  have et : (s.extract k0 s.size).data.toList = s.data.toList.drop k0 := Lib.ext_list s k0
  unfold kyP at h
  split at h
  · unfold quP at h
    split at h
    · cases h
    · next h1 =>
      have h1' : (Q.unqA (s.extract k0 s.size)).2.2 = 0 := by simpa using h1
      have e3 : Q.unqA (s.extract k0 s.size) = ((Q.unqA (s.extract k0 s.size)).1, (Q.unqA (s.extract k0 s.size)).2.1, 0) := by rw [← h1']
      obtain ⟨q1, q2, q3⟩ := Q.X.quo_only e3
      generalize Q.unqA (s.extract k0 s.size) = U at *
      split at h
      · cases h
      · next h2 =>
        simp only [not_or, Bool.not_eq_false, Bool.not_eq_true] at h2
        cases h
        refine ⟨h2.1, by omega, by omega, ?_⟩
        rw [if_neg (by rw [h2.2]; decide), Nat.add_sub_cancel_left]
        simp only [List.toList_toArray]
        rw [q3, et]
  · split at h
    · cases h
    · next h1 =>
      split at h
      · cases h
      · next h2 =>
        cases h
        have hp := plN_le (s.extract k0 s.size)
        have e : (s.extract k0 (k0 + plN (s.extract k0 s.size))).data.toList = (s.data.toList.drop k0).take (plN (s.extract k0 s.size)) := by
          simp [ByteArray.data_extract]
        have hall : ∀ c ∈ (s.data.toList.drop k0).take (plN (s.extract k0 s.size)), plC c.toNat = true := by
          unfold plN
          rw [et]
          intro c hc
          rw [tw_take] at hc
          exact tw_mem (f := fun c => plC c.toNat) _ c hc
        generalize hN : plN (s.extract k0 s.size) = N at *
        have hpl : plS (s.extract k0 (k0 + N)) = true := by
          unfold plS
          rw [e, List.all_eq_true]
          exact hall
        refine ⟨?_, by omega, by omega, ?_⟩
        · have hsz : (s.extract k0 (k0 + N)).size = N := by rw [ByteArray.size_extract]; omega
          unfold keyB rightB plainB
          rw [hsz, e]
          simp only [Bool.and_eq_true, decide_eq_true_eq]
          refine ⟨⟨by omega, by omega⟩, ?_, ?_⟩
          · rw [List.all_eq_true]
            intro c hc
            exact okC_plain (hall c hc)
          · exact valid_plain _ hall
        · rw [if_pos hpl, e, Nat.add_sub_cancel_left]
/-- A step that is read is written so. -/
theorem st_back (s : ByteArray) (k : Nat) (hk : k < s.size) (h : (stP s k).2.2 = true) : stepB (stP s k).1 = true ∧ k < (stP s k).2.1 ∧ (stP s k).2.1 ≤ s.size ∧ stepT (stP s k).1 = (s.data.toList.drop k).take ((stP s k).2.1 - k) := by
  have hz : s.data.toList.length = s.size := Array.length_toList
  have b := k8_drop s k 0
  rw [Nat.add_zero] at b
  have hcons : ∀ {c : Nat} {x : List UInt8} {p : Nat}, K.V.by8 s k = c → k + 1 < p → x = (s.data.toList.drop (k + 1)).take (p - (k + 1)) → UInt8.ofNat c :: x = (s.data.toList.drop k).take (p - k) := by
    intro c x p hc hp hx
    rw [show p - k = (p - (k + 1)) + 1 by omega, hx, ← List.drop_drop]
    have hl : 1 ≤ (s.data.toList.drop k).length := by rw [List.length_drop]; omega
    rw [hc] at b
    generalize s.data.toList.drop k = y at *
    match y, hl with
    | a :: r, _ =>
      simp at b
      simp [b]
  unfold stP at h ⊢
  split
  · next h1 =>
    rw [if_pos h1] at h
    generalize hK : kyP s (k + 1) = N at h ⊢
    obtain ⟨a, p, ok⟩ := N
    simp only [] at h ⊢
    subst h
    obtain ⟨q1, q2, q3, q4⟩ := ky_back s (k + 1) a p (by omega) hK
    refine ⟨?_, by omega, q3, ?_⟩
    · unfold stepB; simp [q1]
    · have := hcons h1 q2 q4
      rw [← this]
      unfold stepT
      rw [if_neg (by simp), if_neg (by simp)]
      rfl
  · next h1 =>
    rw [if_neg h1] at h
    split
    · next h2 =>
      rw [if_pos h2] at h
      generalize hK : ixP s (k + 1) = N at h ⊢
      obtain ⟨a, p, ok⟩ := N
      simp only [] at h ⊢
      subst h
      unfold ixP at hK
      generalize hN : numP s (k + 1) (s.size - (k + 1)) (k + 1) 0 = N at hK
      obtain ⟨x, q, ok⟩ := N
      simp only [] at hK
      split at hK
      · cases hK
      · next h3 =>
        have hok : ok = true := by simpa using h3
        subst hok
        split at hK
        · cases hK
        · next h4 =>
          simp only [not_or] at h4
          cases hK
          obtain ⟨q1, q2, q3, q4⟩ := num_back0 (by omega) hN
          have h93 : K.V.by8 s q = 93 := by simpa using h4.2
          refine ⟨?_, by omega, by omega, ?_⟩
          · unfold stepB; simp [ByteArray.size]; omega
          · have e5 : Lib.decDigits a ++ [93] = (s.data.toList.drop (k + 1)).take (q + 1 - (k + 1)) := by
              rw [q4, show q + 1 - (k + 1) = q - (k + 1) + 1 by omega]
              exact take_more (b := 93) (by rw [List.length_drop]; omega) (by rw [← k8_drop, show k + 1 + (q - (k + 1)) = q by omega]; exact h93)
            rw [← hcons h2 (by omega) e5]
            unfold stepT
            rw [if_pos rfl, itoa_dec (by simp), Int.toNat_natCast]
            rfl
    · next h2 =>
      rw [if_neg h2] at h
      split
      · next h3 =>
        rw [if_pos h3] at h
        generalize hN : numP s (k + 1) (s.size - (k + 1)) (k + 1) 0 = N at h ⊢
        obtain ⟨a, p, ok⟩ := N
        simp only [] at h ⊢
        subst h
        obtain ⟨q1, q2, q3, q4⟩ := num_back0 (by omega) hN
        refine ⟨?_, by omega, by omega, ?_⟩
        · unfold stepB; simp [ByteArray.size]; omega
        · rw [← hcons h3 q1 q4]
          unfold stepT
          rw [if_neg (by simp), if_pos rfl, itoa_dec (by simp), Int.toNat_natCast]
          rfl
      · next h3 => rw [if_neg h3] at h; cases h
/-- A way that is read is written so. -/
theorem rP_back (s : ByteArray) : ∀ (f k : Nat) (acc L : List St) (q : Nat), k ≤ s.size → acc.length ≤ 32 → (∀ x ∈ acc, stepB x = true) → rP s f k acc = (L, q, true) → L ≠ [] ∧ L.length ≤ 32 ∧ (∀ x ∈ L, stepB x = true) ∧ L.flatMap stepT = acc.flatMap stepT ++ s.data.toList.drop k
  | 0, k, acc, L, q, _, _, _, h => by unfold rP at h; cases h
  | f + 1, k, acc, L, q, hk, ha, hr, h => by
    have hz : s.data.toList.length = s.size := Array.length_toList
    rw [rP] at h
    split at h
    · cases h
    · next h1 =>
      simp only [not_or] at h1
      split at h
      · cases h
      · next h2 =>
        have h2' : (stP s k).2.2 = true := by simpa using h2
        obtain ⟨b1, b2, b3, b4⟩ := st_back s k (by omega) h2'
        have hr2 : ∀ x ∈ acc ++ [(stP s k).1], stepB x = true := by
          intro x hx
          rcases List.mem_append.1 hx with hx | hx
          · exact hr x hx
          · rw [List.mem_singleton.1 hx]; exact b1
        have hl2 : (acc ++ [(stP s k).1]).length ≤ 32 := by rw [List.length_append]; simp; omega
        have hfl : (acc ++ [(stP s k).1]).flatMap stepT = acc.flatMap stepT ++ (s.data.toList.drop k).take ((stP s k).2.1 - k) := by rw [List.flatMap_append, ← b4]; simp
        split at h
        · next h3 =>
          obtain ⟨r1, r2, r3, r4⟩ := rP_back s f _ _ L q (by omega) hl2 hr2 h
          refine ⟨r1, r2, r3, ?_⟩
          rw [r4, hfl, List.append_assoc]
          congr 1
          have e : s.data.toList.drop (stP s k).2.1 = (s.data.toList.drop k).drop ((stP s k).2.1 - k) := by rw [List.drop_drop]; congr 1; omega
          rw [e, List.take_append_drop]
        · next h3 =>
          cases h
          refine ⟨by simp, hl2, hr2, ?_⟩
          rw [hfl, List.take_of_length_le (by rw [List.length_drop]; omega)]
end Go.Proofs.YtepkanibcljdkaaDoor

