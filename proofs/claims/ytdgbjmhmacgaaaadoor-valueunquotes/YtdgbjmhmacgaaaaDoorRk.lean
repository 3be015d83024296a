import Derived.Test.YtdgbjmhmacgaaaaDoorRo
namespace Go.Proofs.YtdgbjmhmacgaaaaDoor
open Go.RowKit
set_option linter.unusedVariables false
set_option linter.unusedSimpArgs false

theorem res40 (tmps : Array Value) (w : World) (a b c : Value) (h1 : tmps.getD 4 undef = a) (h2 : tmps.getD 5 undef = b) (h3 : tmps.getD 6 undef = c) : (results Tryd.f40 tmps).run Tryd.prog w = .ok (.tuple #[a, b, c]) w := by
  subst h1 h2 h3
  simp [results, Tryd.results40]
theorem u8_of {b : Int} (h0 : 0 ≤ b) (h1 : b < 128) : ((UInt8.ofNat b.toNat).toNat : Int) = b := by
  rw [UInt8.toNat_ofNat']
  omega
set_option maxRecDepth 100000 in
set_option maxHeartbeats 4000000 in
theorem unquoted_any (s : ByteArray) (w : World) (hs : s.size ≤ 140737488351232) :
    Calls Tryd.prog 40 #[.string s, .int .u8 34] w (UnqOut s w) := by
  by_cases h0 : s.size = 0
  · have hE := empty_list h0
    have hA : unqA s = ([], 0, 31) := by unfold unqA; rw [if_pos (.inl h0)]
    go_enter Tryd.func40, Tryd.ntmps40
    go_wp2
    exact bodyPost_ret (res40 _ _ _ _ _ rfl rfl rfl) rfl (unq_mk0 hA (Below.refl _ _))
  have h0s : 0 < s.size := by omega
  have h0' : (0 : Int) < (s.size : Int) := by omega
  have hE := not_empty s h0s
  obtain ⟨b0, hb0⟩ : ∃ b, (s[0]'h0s).toNat = b := ⟨_, rfl⟩
  have g0 : by8 s 0 = b0 := by rw [by8_get s 0 h0s, hb0]
  by_cases hq : b0 = 34
  · have hA : Hid (unqF s s.size 1 [] = unqA s) := by
      show _ = _
      unfold unqA
      rw [if_neg (by rw [g0]; omega)]
    have c0 : ((b0 : Int) != 34) = false := by rw [hq]; rfl
    clear g0 hq
    go_enter Tryd.func40, Tryd.ntmps40
    go_wp2
    go_loopw [7, 8] (fun v i wr => ∃ (k f : Nat) (acc : List UInt8), i = .int .i64 k ∧ k ≤ s.size ∧ 1 ≤ k ∧ Hid (s.size + 1 ≤ k + f) ∧ Hid (acc.length ≤ k) ∧ Hid (OwnB wr w.heap.size v acc) ∧ Hid (Below w.heap.size w wr) ∧ Hid (unqF s f k acc = unqA s)) (fun _ i _ => s.size - (intOf i).toNat)
    case atStart => exact ⟨1, s.size, [], rfl, by omega, by omega, (by omega : _ ≤ _), (Nat.zero_le 1 : _ ≤ _), ownB_nil _ _, Below.refl _ w, hA⟩
    case round =>
      obtain ⟨k, f, acc, rfl, hk, hk1, hf, hal, own, bel, hF⟩ := hrel
      clear hA
      have hfp : ∃ f', f = f' + 1 := ⟨f - 1, by have := hf.out; omega⟩
      obtain ⟨f', rfl⟩ := hfp
      have ZB : Hid (w.heap.size ≤ wr.heap.size) := bel.out.size
      by_cases h1 : k < s.size
      · have h1' : (k : Int) < (s.size : Int) := by omega
        obtain ⟨b, hb⟩ : ∃ b, (s[k]'h1).toNat = b := ⟨_, rfl⟩
        have gk : by8 s k = b := by rw [by8_get s k h1, hb]
        by_cases h34 : b = 34
        · have c2 : ((b : Int) == 34) = true := by rw [h34]; rfl
          have hA : Hid (unqA s = (acc, (k : Int) + 1, 0)) := by
            show _ = _
            rw [← hF.out]
            exact unqF_shut h1 (by omega)
          have hcv := own_string own.out
          clear gk h34 hF own
          go_wp2
          exact bodyPost_ret (res40 _ _ _ _ _ rfl rfl rfl) rfl (unq_mk hA.out bel.out)
        have c2 : ((b : Int) == 34) = false := beq_eq_false_iff_ne.2 (by omega)
        have h2' : Hid (by8 s k ≠ 34) := by show _ ≠ _; omega
        obtain ⟨t, ht⟩ : ∃ t, s.extract k s.size = t := ⟨_, rfl⟩
        have zt : t.size = s.size - k := by rw [← ht, Lib.ext_size]
        have t0 : by8 t 0 = b := by rw [← ht, ext_by8_from, Nat.add_zero, gk]
        have HT : Hid (s.extract k s.size = t) := ht
        have WD := wide_dec t (by omega)
        obtain ⟨av, cv, rfl, hcv, byv, hav⟩ := own.out.open
        clear byv hav
        by_cases h92 : b = 92
        · have c3 : ((b : Int) == 92) = true := by rw [h92]; rfl
          have hd : Hid ((Lib.decodeL t.data.toList).1 = 92) := by
            show _ = _
            rcases WD with ⟨a1, a2, a3⟩ | ⟨a1, _⟩ | ⟨a1, _⟩
            · rw [a3, t0, h92]
            · omega
            · omega
          have T92 : Hid (by8 t 0 = 92) := by show _ = _; omega
          obtain ⟨u, hu⟩ : ∃ u, s.extract (k + 1) s.size = u := ⟨_, rfl⟩
          have HU : Hid (t.extract 1 t.size = u) := by
            show _ = _
            rw [← hu, ext_next s k, ht]
          have zu : u.size ≤ 140737488355328 := by rw [← hu, Lib.ext_size]; omega
          have HE : Hid (Calls Tryd.prog 57 #[.string u, .int .u8 34] wr (EscROut u wr)) := by
            by_cases hfew : u.size = 0 ∨ by8 u 0 = 34 ∨ by8 u 0 = 92 ∨ by8 u 0 = 110 ∨ by8 u 0 = 114 ∨ by8 u 0 = 116
            · exact rescape_few u wr zu hfew
            · exact rescape_many u wr zu (by omega) (by omega)
          have e1 : ((k : Int) + 1).toNat = k + 1 := by omega
          have l1 : (k : Int) + 1 ≤ (s.size : Int) := by omega
          clear gk h34 h92 t0 WD ht zu
          go_wp2_with fail
          refine HE.out.mono ?_
          rintro e W1 ⟨⟨v, hv, rfl⟩, b1⟩
          obtain ⟨x, n, best⟩ := v
          have B1 : Hid (Below w.heap.size w W1) := bel.out.trans (b1.mono bel.out.size)
          rw [← HU.out] at hv
          rcases esc_of T92.out (by omega) hv with ⟨rfl, q0, q1⟩ | ⟨q0, x0, x1, q1⟩
          · have hC : ChrV t (0, 1 + best, false) := .inl ⟨hd.out, q1⟩
            obtain ⟨n0, n1, _⟩ := chr_ok (by omega) hC
            have hA : Hid (unqA s = ([], (k : Int) + 1 + best, 31)) := by
              show _ = _
              rw [← hF.out, unqF_bad h1 h2'.out (by rw [HT.out]; exact hC)]
              congr 2
              omega
            clear hv q1 hC hF b1 own
            go_wp2
            exact bodyPost_ret (res40 _ _ _ _ _ rfl rfl rfl) rfl (unq_mk0 hA.out B1.out)
          · have hC : ChrV t (x, 1 + n, true) := .inl ⟨hd.out, q1⟩
            obtain ⟨n0, n1, nok⟩ := chr_ok (by omega) hC
            obtain ⟨m, rfl⟩ := Int.eq_ofNat_of_zero_le (show 0 ≤ n by omega)
            have cz : ((m : Int) == 0) = false := beq_eq_false_iff_ne.2 (by omega)
            have hA : Hid (unqF s f' (k + (1 + m)) (acc ++ [UInt8.ofNat x.toNat]) = unqA s) := by
              show _ = _
              rw [← hF.out, unqF_step h1 h2'.out (by rw [HT.out]; exact hC), enc_asc x0 x1]
              congr 1
            have O1 : OwnB W1 w.heap.size (.slice av acc.length cv) acc := own.out.below b1
            have be0 : Below W1.heap.size W1 (W1.alloc (.cells #[.int .u8 x] 5)) := (Below.refl _ _).alloc (Nat.le_refl _) _
            have OA : Hid (OwnB (W1.alloc (.cells #[.int .u8 x] 5)) w.heap.size (.slice av acc.length cv) acc) := O1.below be0
            have BA : Hid (Byt (W1.alloc (.cells #[.int .u8 x] 5)) (some ⟨W1.heap.size, 0, none⟩) [UInt8.ofNat x.toNat]) := by
              have h := byt_one W1 (UInt8.ofNat x.toNat) 5
              rw [u8_of x0 x1] at h
              exact h
            have LA : Hid (acc.length + [UInt8.ofNat x.toNat].length ≤ 140737488355328) := (by have := hal.out; simp; omega : _ ≤ _)
            have ZA : Hid (w.heap.size ≤ (W1.alloc (.cells #[.int .u8 x] 5)).heap.size) := (by have := B1.out.size; have := ZB.out; simp; omega : _ ≤ _)
            have BW : Hid (Below w.heap.size w (W1.alloc (.cells #[.int .u8 x] 5))) := B1.out.alloc (by have := B1.out.size; have := ZB.out; omega) _
            have F2 : Hid (s.size + 1 ≤ k + (1 + m) + f') := (by have := hf.out; omega : _ ≤ _)
            have L2 : Hid ((acc ++ [UInt8.ofNat x.toNat]).length ≤ k + (1 + m)) := (by have := hal.out; simp; omega : _ ≤ _)
            have n2 : (k : Int) + (1 + (m : Int)) ≤ (s.size : Int) := by omega
            clear hv q1 hC hF b1 own O1 be0 nok hal hf
            go_wp2_with (first | (at_builtin; refine wpList_app rfl (.tmp 54) (.tmp 56) rfl w.heap.size (.slice av acc.length cv) acc rfl OA.out (some ⟨W1.heap.size, 0, none⟩) 1 1 [UInt8.ofNat x.toNat] rfl rfl BA.out LA.out ZA.out ?_) | fail)
            intro v5 w5 own5 gr5
            have O5 : Hid (OwnB w5 w.heap.size v5 (acc ++ [UInt8.ofNat x.toNat])) := own5
            have B5 : Hid (Below w.heap.size w w5) := below_own BW.out OA.out gr5 ZA.out
            clear own5 gr5 OA BA LA ZA BW
            go_wp2
            go_roundw
            case rel => exact ⟨k + (1 + m), f', acc ++ [UInt8.ofNat x.toNat], by go_num, by omega, by omega, F2, L2, O5, B5, hA⟩
            case measure => simp [intOf]; omega
        have c3 : ((b : Int) == 92) = false := beq_eq_false_iff_ne.2 (by omega)
        have HW : Hid (Calls Tryd.prog 51 #[.string t] wr fun e w' => e = .returned (.int .i64 (wideN t : Int)) ∧ w' = wr) := wide_any t wr (by omega)
        have HG : Hid (Calls Tryd.prog 58 #[.string t] wr fun e w' => (∃ n : Nat, GoP t n ∧ e = .returned (.int .i64 n)) ∧ w' = wr) := goes_any t wr (by omega)
        have WL := wideN_le t (by omega)
        by_cases hw0 : wideN t = 0
        · have hd : Lib.decodeL t.data.toList = (65533, 1) ∧ 128 ≤ b := by
            rcases WD with ⟨a1, a2, a3⟩ | ⟨a1, a2, a3⟩ | ⟨a1, a2, a3⟩
            · omega
            · exact ⟨a3, by omega⟩
            · omega
          have HD : Hid (Lib.decodeL t.data.toList = (65533, 1)) := hd.1
          have k1 : ¬ (b : Int) < 32 := by omega
          have k2 : ((b : Int) == 127) = false := beq_eq_false_iff_ne.2 (by omega)
          have HW0 : Hid (wideN t = 0) := hw0
          rw [hw0] at HW
          clear hd WD gk h34 h92 t0 own WL hw0
          go_wp2_with fail
          refine HW.out.mono ?_
          rintro e _ ⟨rfl, rfl⟩
          go_wp2_with fail
          refine HG.out.mono ?_
          rintro e _ ⟨⟨g, hg, rfl⟩, rfl⟩
          have hB := beg_of_go (by omega) HW0.out hg
          have hC : ChrV t (0, (g : Int), false) := .inr (.inl ⟨by rw [HD.out], by rw [HD.out], g, hB, rfl⟩)
          obtain ⟨n0, n1, _⟩ := chr_ok (by omega) hC
          have hA : Hid (unqA s = ([], (k : Int) + (g : Int), 31)) := by
            show _ = _
            rw [← hF.out]
            exact unqF_bad h1 h2'.out (by rw [HT.out]; exact hC)
          clear hg hB hC hF HG HW
          go_wp2
          exact bodyPost_ret (res40 _ _ _ _ _ rfl rfl rfl) rfl (unq_mk0 hA.out bel.out)
        have hv : ¬ ((Lib.decodeL t.data.toList).1 = 65533 ∧ (Lib.decodeL t.data.toList).2 = 1) := by
          rcases WD with ⟨a1, a2, a3⟩ | ⟨a1, a2, a3⟩ | ⟨a1, a2, a3, a4⟩
          · rw [a3]; simp only []; omega
          · omega
          · omega
        have hc92 : (Lib.decodeL t.data.toList).1 ≠ 92 := by
          rcases WD with ⟨a1, a2, a3⟩ | ⟨a1, a2, a3⟩ | ⟨a1, a2, a3, a4⟩
          · rw [a3]; simp only []; omega
          · omega
          · omega
        have hwn : (Lib.decodeL t.data.toList).2 = wideN t := by
          rcases WD with ⟨a1, a2, a3⟩ | ⟨a1, a2, a3⟩ | ⟨a1, a2, a3, a4⟩
          · rw [a3, a2]
          · omega
          · exact a3
        by_cases hhid : b < 32 ∨ b = 127
        · have hC : ChrV t (0, 0, false) := by
            refine .inr (.inr (.inl ⟨hc92, hv, ?_, rfl⟩))
            rcases WD with ⟨a1, a2, a3⟩ | ⟨a1, a2, a3⟩ | ⟨a1, a2, a3, a4⟩
            · rw [a3, t0]
              unfold hidB
              rw [Bool.or_eq_true, decide_eq_true_iff, decide_eq_true_iff]
              simp only []
              omega
            · omega
            · omega
          have hA : Hid (unqA s = ([], (k : Int), 31)) := by
            show _ = _
            rw [← hF.out, unqF_bad h1 h2'.out (by rw [HT.out]; exact hC), Int.add_zero]
          have hw1 : wideN t = 1 := by
            rcases WD with ⟨a1, a2, a3⟩ | ⟨a1, a2, a3⟩ | ⟨a1, a2, a3, a4⟩
            · exact a2
            · omega
            · omega
          rw [hw1] at HW
          have hcase : ((b : Int) < 32) ∨ (¬ (b : Int) < 32 ∧ ((b : Int) == 127) = true) := by
            rcases hhid with h | h
            · exact .inl (by omega)
            · exact .inr ⟨by omega, by rw [h]; rfl⟩
          clear hC hF HG hv hc92 hwn WD gk h34 h92 t0 own WL hw0 hw1 hhid
          rcases hcase with k1 | ⟨k1, k2⟩
          all_goals (
            go_wp2_with fail
            refine HW.out.mono ?_
            rintro e _ ⟨rfl, rfl⟩
            go_wp2
            exact bodyPost_ret (res40 _ _ _ _ _ rfl rfl rfl) rfl (unq_mk0 hA.out bel.out))
        · have hC : ChrV t (((Lib.decodeL t.data.toList).1 : Int), (wideN t : Int), true) := by
            refine .inr (.inr (.inr ⟨hc92, hv, ?_, by rw [hwn]⟩))
            rcases WD with ⟨a1, a2, a3⟩ | ⟨a1, a2, a3⟩ | ⟨a1, a2, a3, a4⟩
            · rw [a3, t0]
              unfold hidB
              rw [decide_eq_false (by simp only []; omega), decide_eq_false (by simp only []; omega)]
              rfl
            · omega
            · unfold hidB
              rw [decide_eq_false (by omega), decide_eq_false (by omega)]
              rfl
          have he := Lib.encode_decode _ (ne_nil (show 0 < t.size by omega)) hv
          rw [hwn] at he
          obtain ⟨m, hm⟩ : ∃ m, wideN t = m := ⟨_, rfl⟩
          rw [hm] at hC he WL hw0 HW
          have hA : Hid (unqF s f' (k + m) (acc ++ t.data.toList.take m) = unqA s) := by
            show _ = _
            rw [← hF.out, unqF_step h1 h2'.out (by rw [HT.out]; exact hC), he]
            rfl
          obtain ⟨p, hp⟩ : ∃ p, s.extract k (k + m) = p := ⟨_, rfl⟩
          have lp : p.data.toList = t.data.toList.take m := by rw [← hp, ext_take, ht]
          rw [← lp] at hA
          have lpl : p.data.toList.length = m := by
            rw [lp, List.length_take]
            have : t.data.toList.length = t.size := by simp
            omega
          have cz : ((m : Int) == 0) = false := beq_eq_false_iff_ne.2 (by omega)
          have k1 : ¬ (b : Int) < 32 := by omega
          have k2 : ((b : Int) == 127) = false := beq_eq_false_iff_ne.2 (by omega)
          have OA : Hid (OwnB wr w.heap.size (.slice av acc.length cv) acc) := own.out
          have LA : Hid (acc.length + p.data.toList.length ≤ 140737488355328) := (by have := hal.out; omega : _ ≤ _)
          have F2 : Hid (s.size + 1 ≤ k + m + f') := (by have := hf.out; omega : _ ≤ _)
          have L2 : Hid ((acc ++ p.data.toList).length ≤ k + m) := (by have := hal.out; rw [List.length_append]; omega : _ ≤ _)
          have n2 : (k : Int) + (m : Int) ≤ (s.size : Int) := by omega
          have e2 : ((k : Int) + (m : Int)).toNat = k + m := by omega
          clear hC hF HG hv hc92 hwn WD gk h34 h92 t0 own WL hhid he lp lpl hm hf hal
          go_wp2_with fail
          refine HW.out.mono ?_
          rintro e _ ⟨rfl, rfl⟩
          go_wp2_with (first | (at_builtin; refine wpList_appS rfl (.tmp 89) (.tmp 95) rfl w.heap.size (.slice av acc.length cv) acc rfl OA.out p rfl LA.out ZB.out ?_) | fail)
          intro v5 w5 own5 gr5
          have O5 : Hid (OwnB w5 w.heap.size v5 (acc ++ p.data.toList)) := own5
          have B5 : Hid (Below w.heap.size w w5) := below_own bel.out OA.out gr5 ZB.out
          clear own5 gr5 OA LA
          go_wp2
          go_roundw
          case rel => exact ⟨k + m, f', acc ++ p.data.toList, by go_num, by omega, by omega, F2, L2, O5, B5, hA⟩
          case measure => simp [intOf]; omega
      · obtain rfl : k = s.size := by omega
        have h1' : ¬ (s.size : Int) < (s.size : Int) := by omega
        have hA : Hid (unqA s = ([], (s.size : Int), 31)) := by
          show _ = _
          rw [← hF.out]
          exact unqF_end rfl
        clear hF own
        go_wp2
        exact bodyPost_ret (res40 _ _ _ _ _ rfl rfl rfl) rfl (unq_mk0 hA.out bel.out)
  · have c0 : ((b0 : Int) != 34) = true := bne_iff_ne.2 (by omega)
    have hA : unqA s = ([], 0, 31) := by unfold unqA; rw [if_pos (.inr (by rw [g0]; exact hq))]
    clear g0 hq
    go_enter Tryd.func40, Tryd.ntmps40
    go_wp2
    exact bodyPost_ret (res40 _ _ _ _ _ rfl rfl rfl) rfl (unq_mk0 hA (Below.refl _ _))
end Go.Proofs.YtdgbjmhmacgaaaaDoor
