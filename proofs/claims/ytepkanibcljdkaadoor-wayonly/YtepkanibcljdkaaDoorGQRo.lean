import Derived.Test.YtepkanibcljdkaaDoorGQRm
import Derived.Test.YtepkanibcljdkaaDoorGQUm
namespace Go.Proofs.YtepkanibcljdkaaDoor.Q
open Go.RowKit
set_option linter.unusedVariables false
set_option linter.unusedSimpArgs false

theorem decL (t : ByteArray) : Lib.decodeL t.data.toList = Lib.decodeN t.size (by8 t 0) (by8 t 1) (by8 t 2) (by8 t 3) := by
  rw [Lib.decodeL_N]
  unfold by8
  congr 1
theorem decN_high (n b0 b1 b2 b3 : Nat) (h : 128 ≤ b0) : 128 ≤ (Lib.decodeN n b0 b1 b2 b3).1 := by
  unfold Lib.decodeN
  repeat' split
  all_goals (simp only []; omega)
theorem wide_dec (t : ByteArray) (h0 : 0 < t.size) :
    (by8 t 0 < 128 ∧ wideN t = 1 ∧ Lib.decodeL t.data.toList = (by8 t 0, 1)) ∨
    (128 ≤ by8 t 0 ∧ wideN t = 0 ∧ Lib.decodeL t.data.toList = (65533, 1)) ∨
    (128 ≤ by8 t 0 ∧ 2 ≤ wideN t ∧ (Lib.decodeL t.data.toList).2 = wideN t ∧ 128 ≤ (Lib.decodeL t.data.toList).1) := by
  rw [decL, wideN_B]
  have l0 := by8_lt t 0
  have l1 := by8_lt t 1
  have l2 := by8_lt t 2
  have l3 := by8_lt t 3
  generalize by8 t 0 = b0 at *
  generalize by8 t 1 = b1 at *
  generalize by8 t 2 = b2 at *
  generalize by8 t 3 = b3 at *
  generalize t.size = n at *
  by_cases h : b0 < 128
  · left
    refine ⟨h, by unfold wideB; rw [if_pos h], by unfold Lib.decodeN; rw [if_pos h]⟩
  · have h128 : 128 ≤ b0 := by omega
    have hi := decN_high n b0 b1 b2 b3 h128
    right
    by_cases hX : Lib.firstT b0 < 240
    · have e := Lib.slow_eq n b0 b1 b2 b3 (by omega) l1 l2 l3 hX
      have sz : Lib.firstT b0 % 8 = 2 ∨ Lib.firstT b0 % 8 = 3 ∨ Lib.firstT b0 % 8 = 4 := by
        rcases Lib.firstT_cases b0 with x | x | x | x | x | x | x | x | x <;> omega
      rcases Lib.check_slow n b0 b1 b2 b3 (Lib.firstT b0 % 8) (Lib.accLo (Lib.firstT b0 / 16)) (Lib.accHi (Lib.firstT b0 / 16)) sz with ⟨c, d⟩ | ⟨c, d⟩
      · left
        refine ⟨h128, by unfold wideB; rw [if_neg h, c]; rfl, by rw [← e, d]⟩
      · right
        have ew : wideB n b0 b1 b2 b3 = Lib.firstT b0 % 8 := by unfold wideB; rw [if_neg h, c]; rfl
        exact ⟨h128, by rw [ew]; omega, by rw [ew, ← e, d], hi⟩
    · left
      have x1 : Lib.firstT b0 = 241 := by
        rcases Lib.firstT_cases b0 with x | x | x | x | x | x | x | x | x <;> first | omega | skip
        exfalso
        unfold Lib.firstT at x
        rw [if_neg h] at x
        repeat' split at x
        all_goals omega
      have hb : (128 ≤ b0 ∧ b0 < 194) ∨ (245 ≤ b0 ∧ b0 < 256) := by
        unfold Lib.firstT at x1
        rw [if_neg h] at x1
        repeat' split at x1
        all_goals omega
      refine ⟨h128, ?_, Lib.decodeN_bad n b0 b1 b2 b3 hb⟩
      unfold wideB
      rw [if_neg h, x1, check_none _ _ _ _ _ _ _ (by decide) (by decide) (by decide)]
      rfl
theorem byteArray_ext {a b : ByteArray} (h : a.data.toList = b.data.toList) : a = b := by
  cases a; cases b
  simp only [ByteArray.mk.injEq]
  exact Array.toList_inj.1 h
theorem ext_next (s : ByteArray) (k : Nat) : s.extract (k + 1) s.size = (s.extract k s.size).extract 1 (s.extract k s.size).size := by
  apply byteArray_ext
  rw [Lib.ext_list, Lib.ext_list, Lib.ext_list, List.drop_drop, Nat.add_comm]
theorem ext_by8_from (s : ByteArray) (k i : Nat) : by8 (s.extract k s.size) i = by8 s (k + i) := by
  unfold by8
  rw [Lib.ext_list, List.getD_eq_getElem?_getD, List.getD_eq_getElem?_getD, List.getElem?_drop]
theorem ext_take (s : ByteArray) (k m : Nat) : (s.extract k (k + m)).data.toList = (s.extract k s.size).data.toList.take m := by
  rw [Lib.ext_list]
  simp [ByteArray.data_extract, List.take_drop]
theorem own_string {w : World} {base : Nat} {v : Value} {L : List UInt8} (h : OwnB w base v L) : (convert 36 9 v).run Tryd.prog w = .ok (.string ⟨L.toArray⟩) w := by
  by_cases h0 : 0 < L.length
  · obtain ⟨g1, c1, rfl, hc1, hcl, _, _⟩ := h.open1 h0
    exact run_convert_bytes_back (P := Tryd.prog) w 36 9 5 ⟨g1, 0, none⟩ c1 L Tryd.underlying36 Tryd.underlying5 Tryd.underlying9 (fun j hj => by
      have e : (⟨g1, 0, none⟩ : Addr).add j = ⟨g1, j, none⟩ := by simpa using Addr.add_mid g1 0 j
      rw [e, hcl j hj]
      simp [at8, List.getElem?_eq_getElem hj])
  · have hL : L = [] := List.eq_nil_of_length_eq_zero (by omega)
    subst hL
    rcases h.2 with ⟨rfl, hn⟩ | ⟨g, cap, cur, rfl, hbg, hg, hnc, hcm, hcs, htake⟩
    · rw [run_convert_bytes_string w 36 9 5 none 0 0 Tryd.underlying36 Tryd.underlying5 Tryd.underlying9]
      rfl
    · exact run_convert_bytes_back (P := Tryd.prog) w 36 9 5 ⟨g, 0, none⟩ cap [] Tryd.underlying36 Tryd.underlying5 Tryd.underlying9 (fun j hj => by simp at hj)
end Go.Proofs.YtepkanibcljdkaaDoor.Q

namespace Go.Proofs.YtepkanibcljdkaaDoor.Q
open Go.RowKit
set_option linter.unusedVariables false
set_option linter.unusedSimpArgs false

theorem res40 (tmps : Array Value) (w : World) (a b c : Value) (h1 : tmps.getD 4 undef = a) (h2 : tmps.getD 5 undef = b) (h3 : tmps.getD 6 undef = c) : (results Tryd.f67 tmps).run Tryd.prog w = .ok (.tuple #[a, b, c]) w := by
  subst h1 h2 h3
  simp [results, Tryd.results67]
theorem u8_of {b : Int} (h0 : 0 ≤ b) (h1 : b < 128) : ((UInt8.ofNat b.toNat).toNat : Int) = b := by
  rw [UInt8.toNat_ofNat']
  omega
set_option maxRecDepth 100000 in
set_option maxHeartbeats 4000000 in
theorem unquoted_any (s : ByteArray) (w : World) (hs : s.size ≤ 140737488351232) :
    Calls Tryd.prog 67 #[.string s, .int .u8 34] w (UnqOut s w) := by
  by_cases h0 : s.size = 0
  · have hE := empty_list h0
    have hA : unqA s = ([], 0, 31) := by unfold unqA; rw [if_pos (.inl h0)]
    go_enter Tryd.func67, Tryd.ntmps67
    go_wp2
    exact bodyPost_ret (res40 _ _ _ _ _ rfl rfl rfl) rfl (unq_mk0 hA (Below.refl _ _))
  have h0s : 0 < s.size := by omega
  have h0' : (0 : Int) < (s.size : Int) := by omega
  have hE := not_empty s h0s
  obtain ⟨b0, hb0⟩ : ∃ b, (s[0]'h0s).toNat = b := ⟨_, rfl⟩
  have g0 : by8 s 0 = b0 := by rw [by8_get s 0 h0s, hb0]
  by_cases hq : b0 = 34
  · have hA : Hid (unqF s s.size 1 [] = unqA s) := by
      show _ = _
      unfold unqA
      rw [if_neg (by rw [g0]; omega)]
    have c0 : ((b0 : Int) != 34) = false := by rw [hq]; rfl
    clear g0 hq
    go_enter Tryd.func67, Tryd.ntmps67
    go_wp2
    go_loopw [7, 8] (fun v i wr => ∃ (k f : Nat) (acc : List UInt8), i = .int .i64 k ∧ k ≤ s.size ∧ 1 ≤ k ∧ Hid (s.size + 1 ≤ k + f) ∧ Hid (acc.length ≤ k) ∧ Hid (OwnB wr w.heap.size v acc) ∧ Hid (Below w.heap.size w wr) ∧ Hid (unqF s f k acc = unqA s)) (fun _ i _ => s.size - (intOf i).toNat)
    case atStart => exact ⟨1, s.size, [], rfl, by omega, by omega, (by omega : _ ≤ _), (Nat.zero_le 1 : _ ≤ _), ownB_nil _ _, Below.refl _ w, hA⟩
    case round =>
      obtain ⟨k, f, acc, rfl, hk, hk1, hf, hal, own, bel, hF⟩ := hrel
      clear hA
      have hfp : ∃ f', f = f' + 1 := ⟨f - 1, by have := hf.out; omega⟩
      obtain ⟨f', rfl⟩ := hfp
      have ZB : Hid (w.heap.size ≤ wr.heap.size) := bel.out.size
      by_cases h1 : k < s.size
      · have h1' : (k : Int) < (s.size : Int) := by omega
        obtain ⟨b, hb⟩ : ∃ b, (s[k]'h1).toNat = b := ⟨_, rfl⟩
        have gk : by8 s k = b := by rw [by8_get s k h1, hb]
        by_cases h34 : b = 34
        · have c2 : ((b : Int) == 34) = true := by rw [h34]; rfl
          have hA : Hid (unqA s = (acc, (k : Int) + 1, 0)) := by
            show _ = _
            rw [← hF.out]
            exact unqF_shut h1 (by omega)
          have hcv := own_string own.out
          clear gk h34 hF own
          go_wp2
          exact bodyPost_ret (res40 _ _ _ _ _ rfl rfl rfl) rfl (unq_mk hA.out bel.out)
        have c2 : ((b : Int) == 34) = false := beq_eq_false_iff_ne.2 (by omega)
        have h2' : Hid (by8 s k ≠ 34) := by show _ ≠ _; omega
        obtain ⟨t, ht⟩ : ∃ t, s.extract k s.size = t := ⟨_, rfl⟩
        have zt : t.size = s.size - k := by rw [← ht, Lib.ext_size]
        have t0 : by8 t 0 = b := by rw [← ht, ext_by8_from, Nat.add_zero, gk]
        have HT : Hid (s.extract k s.size = t) := ht
        have WD := wide_dec t (by omega)
        obtain ⟨av, cv, rfl, hcv, byv, hav⟩ := own.out.open
        clear byv hav
        by_cases h92 : b = 92
        · have c3 : ((b : Int) == 92) = true := by rw [h92]; rfl
          have hd : Hid ((Lib.decodeL t.data.toList).1 = 92) := by
            show _ = _
            rcases WD with ⟨a1, a2, a3⟩ | ⟨a1, _⟩ | ⟨a1, _⟩
            · rw [a3, t0, h92]
            · omega
            · omega
          have T92 : Hid (by8 t 0 = 92) := by show _ = _; omega
          obtain ⟨u, hu⟩ : ∃ u, s.extract (k + 1) s.size = u := ⟨_, rfl⟩
          have HU : Hid (t.extract 1 t.size = u) := by
            show _ = _
            rw [← hu, ext_next s k, ht]
          have zu : u.size ≤ 140737488355328 := by rw [← hu, Lib.ext_size]; omega
          have HE : Hid (Calls Tryd.prog 77 #[.string u, .int .u8 34] wr (EscROut u wr)) := by
            by_cases hfew : u.size = 0 ∨ by8 u 0 = 34 ∨ by8 u 0 = 92 ∨ by8 u 0 = 110 ∨ by8 u 0 = 114 ∨ by8 u 0 = 116
            · exact rescape_few u wr zu hfew
            · exact rescape_many u wr zu (by omega) (by omega)
          have e1 : ((k : Int) + 1).toNat = k + 1 := by omega
          have l1 : (k : Int) + 1 ≤ (s.size : Int) := by omega
          clear gk h34 h92 t0 WD ht zu
          go_wp2_with fail
          refine HE.out.mono ?_
          rintro e W1 ⟨⟨v, hv, rfl⟩, b1⟩
          obtain ⟨x, n, best⟩ := v
          have B1 : Hid (Below w.heap.size w W1) := bel.out.trans (b1.mono bel.out.size)
          rw [← HU.out] at hv
          rcases esc_of T92.out (by omega) hv with ⟨rfl, q0, q1⟩ | ⟨q0, x0, x1, q1⟩
          · have hC : ChrV t (0, 1 + best, false) := .inl ⟨hd.out, q1⟩
            obtain ⟨n0, n1, _⟩ := chr_ok (by omega) hC
            have hA : Hid (unqA s = ([], (k : Int) + 1 + best, 31)) := by
              show _ = _
              rw [← hF.out, unqF_bad h1 h2'.out (by rw [HT.out]; exact hC)]
              congr 2
              omega
            clear hv q1 hC hF b1 own
            go_wp2
            exact bodyPost_ret (res40 _ _ _ _ _ rfl rfl rfl) rfl (unq_mk0 hA.out B1.out)
          · have hC : ChrV t (x, 1 + n, true) := .inl ⟨hd.out, q1⟩
            obtain ⟨n0, n1, nok⟩ := chr_ok (by omega) hC
            obtain ⟨m, rfl⟩ := Int.eq_ofNat_of_zero_le (show 0 ≤ n by omega)
            have cz : ((m : Int) == 0) = false := beq_eq_false_iff_ne.2 (by omega)
            have hA : Hid (unqF s f' (k + (1 + m)) (acc ++ [UInt8.ofNat x.toNat]) = unqA s) := by
              show _ = _
              rw [← hF.out, unqF_step h1 h2'.out (by rw [HT.out]; exact hC), enc_asc x0 x1]
              congr 1
            have O1 : OwnB W1 w.heap.size (.slice av acc.length cv) acc := own.out.below b1
            have be0 : Below W1.heap.size W1 (W1.alloc (.cells #[.int .u8 x] 5)) := (Below.refl _ _).alloc (Nat.le_refl _) _
            have OA : Hid (OwnB (W1.alloc (.cells #[.int .u8 x] 5)) w.heap.size (.slice av acc.length cv) acc) := O1.below be0
            have BA : Hid (Byt (W1.alloc (.cells #[.int .u8 x] 5)) (some ⟨W1.heap.size, 0, none⟩) [UInt8.ofNat x.toNat]) := by
              have h := byt_one W1 (UInt8.ofNat x.toNat) 5
              rw [u8_of x0 x1] at h
              exact h
            have LA : Hid (acc.length + [UInt8.ofNat x.toNat].length ≤ 140737488355328) := (by have := hal.out; simp; omega : _ ≤ _)
            have ZA : Hid (w.heap.size ≤ (W1.alloc (.cells #[.int .u8 x] 5)).heap.size) := (by have := B1.out.size; have := ZB.out; simp; omega : _ ≤ _)
            have BW : Hid (Below w.heap.size w (W1.alloc (.cells #[.int .u8 x] 5))) := B1.out.alloc (by have := B1.out.size; have := ZB.out; omega) _
            have F2 : Hid (s.size + 1 ≤ k + (1 + m) + f') := (by have := hf.out; omega : _ ≤ _)
            have L2 : Hid ((acc ++ [UInt8.ofNat x.toNat]).length ≤ k + (1 + m)) := (by have := hal.out; simp; omega : _ ≤ _)
            have n2 : (k : Int) + (1 + (m : Int)) ≤ (s.size : Int) := by omega
            clear hv q1 hC hF b1 own O1 be0 nok hal hf
            go_wp2_with (first | (at_builtin; refine wpList_app rfl (.tmp 54) (.tmp 56) rfl w.heap.size (.slice av acc.length cv) acc rfl OA.out (some ⟨W1.heap.size, 0, none⟩) 1 1 [UInt8.ofNat x.toNat] rfl rfl BA.out LA.out ZA.out ?_) | fail)
            intro v5 w5 own5 gr5
            have O5 : Hid (OwnB w5 w.heap.size v5 (acc ++ [UInt8.ofNat x.toNat])) := own5
            have B5 : Hid (Below w.heap.size w w5) := below_own BW.out OA.out gr5 ZA.out
            clear own5 gr5 OA BA LA ZA BW
            go_wp2
            go_roundw
            case rel => exact ⟨k + (1 + m), f', acc ++ [UInt8.ofNat x.toNat], by go_num, by omega, by omega, F2, L2, O5, B5, hA⟩
            case measure => simp [intOf]; omega
        have c3 : ((b : Int) == 92) = false := beq_eq_false_iff_ne.2 (by omega)
        have HW : Hid (Calls Tryd.prog 47 #[.string t] wr fun e w' => e = .returned (.int .i64 (wideN t : Int)) ∧ w' = wr) := wide_any t wr (by omega)
        have HG : Hid (Calls Tryd.prog 78 #[.string t] wr fun e w' => (∃ n : Nat, GoP t n ∧ e = .returned (.int .i64 n)) ∧ w' = wr) := goes_any t wr (by omega)
        have WL := wideN_le t (by omega)
        by_cases hw0 : wideN t = 0
        · have hd : Lib.decodeL t.data.toList = (65533, 1) ∧ 128 ≤ b := by
            rcases WD with ⟨a1, a2, a3⟩ | ⟨a1, a2, a3⟩ | ⟨a1, a2, a3⟩
            · omega
            · exact ⟨a3, by omega⟩
            · omega
          have HD : Hid (Lib.decodeL t.data.toList = (65533, 1)) := hd.1
          have k1 : ¬ (b : Int) < 32 := by omega
          have k2 : ((b : Int) == 127) = false := beq_eq_false_iff_ne.2 (by omega)
          have HW0 : Hid (wideN t = 0) := hw0
          rw [hw0] at HW
          clear hd WD gk h34 h92 t0 own WL hw0
          go_wp2_with fail
          refine HW.out.mono ?_
          rintro e _ ⟨rfl, rfl⟩
          go_wp2_with fail
          refine HG.out.mono ?_
          rintro e _ ⟨⟨g, hg, rfl⟩, rfl⟩
          have hB := beg_of_go (by omega) HW0.out hg
          have hC : ChrV t (0, (g : Int), false) := .inr (.inl ⟨by rw [HD.out], by rw [HD.out], g, hB, rfl⟩)
          obtain ⟨n0, n1, _⟩ := chr_ok (by omega) hC
          have hA : Hid (unqA s = ([], (k : Int) + (g : Int), 31)) := by
            show _ = _
            rw [← hF.out]
            exact unqF_bad h1 h2'.out (by rw [HT.out]; exact hC)
          clear hg hB hC hF HG HW
          go_wp2
          exact bodyPost_ret (res40 _ _ _ _ _ rfl rfl rfl) rfl (unq_mk0 hA.out bel.out)
        have hv : ¬ ((Lib.decodeL t.data.toList).1 = 65533 ∧ (Lib.decodeL t.data.toList).2 = 1) := by
          rcases WD with ⟨a1, a2, a3⟩ | ⟨a1, a2, a3⟩ | ⟨a1, a2, a3, a4⟩
          · rw [a3]; simp only []; omega
          · omega
          · omega
        have hc92 : (Lib.decodeL t.data.toList).1 ≠ 92 := by
          rcases WD with ⟨a1, a2, a3⟩ | ⟨a1, a2, a3⟩ | ⟨a1, a2, a3, a4⟩
          · rw [a3]; simp only []; omega
          · omega
          · omega
        have hwn : (Lib.decodeL t.data.toList).2 = wideN t := by
          rcases WD with ⟨a1, a2, a3⟩ | ⟨a1, a2, a3⟩ | ⟨a1, a2, a3, a4⟩
          · rw [a3, a2]
          · omega
          · exact a3
        by_cases hhid : b < 32 ∨ b = 127
        · have hC : ChrV t (0, 0, false) := by
            refine .inr (.inr (.inl ⟨hc92, hv, ?_, rfl⟩))
            rcases WD with ⟨a1, a2, a3⟩ | ⟨a1, a2, a3⟩ | ⟨a1, a2, a3, a4⟩
            · rw [a3, t0]
              unfold hidB
              rw [Bool.or_eq_true, decide_eq_true_iff, decide_eq_true_iff]
              simp only []
              omega
            · omega
            · omega
          have hA : Hid (unqA s = ([], (k : Int), 31)) := by
            show _ = _
            rw [← hF.out, unqF_bad h1 h2'.out (by rw [HT.out]; exact hC), Int.add_zero]
          have hw1 : wideN t = 1 := by
            rcases WD with ⟨a1, a2, a3⟩ | ⟨a1, a2, a3⟩ | ⟨a1, a2, a3, a4⟩
            · exact a2
            · omega
            · omega
          rw [hw1] at HW
          have hcase : ((b : Int) < 32) ∨ (¬ (b : Int) < 32 ∧ ((b : Int) == 127) = true) := by
            rcases hhid with h | h
            · exact .inl (by omega)
            · exact .inr ⟨by omega, by rw [h]; rfl⟩
          clear hC hF HG hv hc92 hwn WD gk h34 h92 t0 own WL hw0 hw1 hhid
          rcases hcase with k1 | ⟨k1, k2⟩
          all_goals (
            go_wp2_with fail
            refine HW.out.mono ?_
            rintro e _ ⟨rfl, rfl⟩
            go_wp2
            exact bodyPost_ret (res40 _ _ _ _ _ rfl rfl rfl) rfl (unq_mk0 hA.out bel.out))
        · have hC : ChrV t (((Lib.decodeL t.data.toList).1 : Int), (wideN t : Int), true) := by
            refine .inr (.inr (.inr ⟨hc92, hv, ?_, by rw [hwn]⟩))
            rcases WD with ⟨a1, a2, a3⟩ | ⟨a1, a2, a3⟩ | ⟨a1, a2, a3, a4⟩
            · rw [a3, t0]
              unfold hidB
              rw [decide_eq_false (by simp only []; omega), decide_eq_false (by simp only []; omega)]
              rfl
            · omega
            · unfold hidB
              rw [decide_eq_false (by omega), decide_eq_false (by omega)]
              rfl
          have he := Lib.encode_decode _ (ne_nil (show 0 < t.size by omega)) hv
          rw [hwn] at he
          obtain ⟨m, hm⟩ : ∃ m, wideN t = m := ⟨_, rfl⟩
          rw [hm] at hC he WL hw0 HW
          have hA : Hid (unqF s f' (k + m) (acc ++ t.data.toList.take m) = unqA s) := by
            show _ = _
            rw [← hF.out, unqF_step h1 h2'.out (by rw [HT.out]; exact hC), he]
            rfl
          obtain ⟨p, hp⟩ : ∃ p, s.extract k (k + m) = p := ⟨_, rfl⟩
          have lp : p.data.toList = t.data.toList.take m := by rw [← hp, ext_take, ht]
          rw [← lp] at hA
          have lpl : p.data.toList.length = m := by
            rw [lp, List.length_take]
            have : t.data.toList.length = t.size := by simp
            omega
          have cz : ((m : Int) == 0) = false := beq_eq_false_iff_ne.2 (by omega)
          have k1 : ¬ (b : Int) < 32 := by omega
          have k2 : ((b : Int) == 127) = false := beq_eq_false_iff_ne.2 (by omega)
          have OA : Hid (OwnB wr w.heap.size (.slice av acc.length cv) acc) := own.out
          have LA : Hid (acc.length + p.data.toList.length ≤ 140737488355328) := (by have := hal.out; omega : _ ≤ _)
          have F2 : Hid (s.size + 1 ≤ k + m + f') := (by have := hf.out; omega : _ ≤ _)
          have L2 : Hid ((acc ++ p.data.toList).length ≤ k + m) := (by have := hal.out; rw [List.length_append]; omega : _ ≤ _)
          have n2 : (k : Int) + (m : Int) ≤ (s.size : Int) := by omega
          have e2 : ((k : Int) + (m : Int)).toNat = k + m := by omega
          clear hC hF HG hv hc92 hwn WD gk h34 h92 t0 own WL hhid he lp lpl hm hf hal
          go_wp2_with fail
          refine HW.out.mono ?_
          rintro e _ ⟨rfl, rfl⟩
          go_wp2_with (first | (at_builtin; refine wpList_appS rfl (.tmp 89) (.tmp 95) rfl w.heap.size (.slice av acc.length cv) acc rfl OA.out p rfl LA.out ZB.out ?_) | fail)
          intro v5 w5 own5 gr5
          have O5 : Hid (OwnB w5 w.heap.size v5 (acc ++ p.data.toList)) := own5
          have B5 : Hid (Below w.heap.size w w5) := below_own bel.out OA.out gr5 ZB.out
          clear own5 gr5 OA LA
          go_wp2
          go_roundw
          case rel => exact ⟨k + m, f', acc ++ p.data.toList, by go_num, by omega, by omega, F2, L2, O5, B5, hA⟩
          case measure => simp [intOf]; omega
      · obtain rfl : k = s.size := by omega
        have h1' : ¬ (s.size : Int) < (s.size : Int) := by omega
        have hA : Hid (unqA s = ([], (s.size : Int), 31)) := by
          show _ = _
          rw [← hF.out]
          exact unqF_end rfl
        clear hF own
        go_wp2
        exact bodyPost_ret (res40 _ _ _ _ _ rfl rfl rfl) rfl (unq_mk0 hA.out bel.out)
  · have c0 : ((b0 : Int) != 34) = true := bne_iff_ne.2 (by omega)
    have hA : unqA s = ([], 0, 31) := by unfold unqA; rw [if_pos (.inr (by rw [g0]; exact hq))]
    clear g0 hq
    go_enter Tryd.func67, Tryd.ntmps67
    go_wp2
    exact bodyPost_ret (res40 _ _ _ _ _ rfl rfl rfl) rfl (unq_mk0 hA (Below.refl _ _))
end Go.Proofs.YtepkanibcljdkaaDoor.Q

namespace Go.Proofs.YtepkanibcljdkaaDoor.Q
open Go.RowKit
set_option linter.unusedVariables false
set_option linter.unusedSimpArgs false

theorem res18 (tmps : Array Value) (w : World) (a b c : Value) (h1 : tmps.getD 2 undef = a) (h2 : tmps.getD 3 undef = b) (h3 : tmps.getD 4 undef = c) : (results Tryd.f54 tmps).run Tryd.prog w = .ok (.tuple #[a, b, c]) w := by
  subst h1 h2 h3
  simp [results, Tryd.results54]
set_option maxRecDepth 100000 in
set_option maxHeartbeats 400000 in
theorem runquote_any (s : ByteArray) (w : World) (hs : s.size ≤ 140737488351232) :
    Calls Tryd.prog 54 #[.string s] w (UnqOut s w) := by
  have HQ : Hid (Calls Tryd.prog 67 #[.string s, .int .u8 34] w (UnqOut s w)) := unquoted_any s w hs
  obtain ⟨l, a, b, hA⟩ : ∃ l a b, unqA s = (l, a, b) := ⟨_, _, _, rfl⟩
  have HA : Hid (unqA s = (l, a, b)) := hA
  unfold UnqOut at HQ
  rw [hA] at HQ
  clear hA
  go_enter Tryd.func54, Tryd.ntmps54
  go_wp2_with fail
  refine HQ.out.mono ?_
  rintro e w1 ⟨rfl, b1⟩
  go_wp2
  exact bodyPost_ret (res18 _ _ _ _ _ rfl rfl rfl) rfl (unq_mk HA.out b1)
end Go.Proofs.YtepkanibcljdkaaDoor.Q

