import Derived.Test.YtphpaaajfcbafaaDoorKQn
import Derived.Test.YtphpaaajfcbafaaDoorKPi
namespace Go.Proofs.YtphpaaajfcbafaaDoor.K
open Go.RowKit
set_option linter.unusedVariables false
set_option linter.unusedSimpArgs false

variable {T : TypeId} {r cap : Nat} {a : Option Addr} {L : List UInt8} {s : St}
theorem qnum_ok (w : World) (h : RD w T r a cap L s) (hb : s.bad = 0) (v sz : Nat) (pl : Int) (hN : num L s.k = ⟨v, sz, 0, pl⟩) :
    Calls Tryd.prog 59 #[.pointer (some ⟨r, 0, none⟩)] w fun e w' => e = .returned (.tuple #[.int .u64 (v : Int), .int .i64 (sz : Int)]) ∧ On w w' T r a cap L s := by
  have := qnumber_any w h hb
  rw [hN] at this
  simp only [if_true, St.fl_ok] at this
  exact this
theorem qnum_no (w : World) (h : RD w T r a cap L s) (hb : s.bad = 0) (v sz : Nat) (why pl : Int) (hN : num L s.k = ⟨v, sz, why, pl⟩) (hy : why ≠ 0) :
    Calls Tryd.prog 59 #[.pointer (some ⟨r, 0, none⟩)] w fun e w' => e = .returned (.tuple #[.int .u64 0, .int .i64 0]) ∧ On w w' T r a cap L ⟨s.k, why, pl⟩ := by
  have := qnumber_any w h hb
  rw [hN] at this
  simp only [if_neg hy, St.fl_new s why pl hb hy] at this
  exact this
set_option maxRecDepth 100000 in
set_option maxHeartbeats 1000000 in
theorem quint_any (most : Nat) (hm : most < 18446744073709551616) (w : World) (h : RD w T r a cap L s) :
    Calls Tryd.prog 42 #[.pointer (some ⟨r, 0, none⟩), .int .u64 (most : Int)] w fun e w' => e = .returned (.int .u64 ((rUint L most s).1 : Int)) ∧ On w w' T r a cap L (rUint L most s).2 := by
  by_cases hb : s.bad = 0
  · have c2 := h.c2
    rw [hb] at c2
    have HU : rUint L most s = (if (num L s.k).why = 0 then (if (num L s.k).v ≤ most then ((num L s.k).v, ⟨s.k + (num L s.k).size, s.bad, s.wh⟩) else (0, ⟨s.k, 2, s.k⟩)) else (0, ⟨s.k, (num L s.k).why, (num L s.k).place⟩)) := by unfold rUint; rw [if_pos hb]
    rw [HU]
    have hok := num_ok L s.k h.at_le
    rcases hN : num L s.k with ⟨v, sz, why, pl⟩
    rw [hN] at hok
    simp only at hok ⊢
    by_cases hy : why = 0
    · subst hy
      rw [if_pos rfl]
      have HN' := Hid.mk' (qnum_ok w h hb v sz pl hN)
      obtain ⟨hs0, hs1, hv64⟩ := hok.1 rfl
      have hf := h.few
      have hs0' : ¬ (sz : Int) = 0 := by omega
      clear HU h hN hok
      by_cases hv : v ≤ most
      · rw [if_pos hv]
        have hv' : ¬ (most : Int) < (v : Int) := by omega
        go_enter Tryd.func42, Tryd.ntmps42
        go_wp2_with fail
        refine HN'.out.mono ?_
        rintro e w2 ⟨rfl, ho⟩
        have c1 := ho.1.c1
        have f1 := ho.1.fz 1
        have HO := Hid.mk' (ho.set1 (s.k + sz) ((s.k : Int) + (sz : Int)) (by omega) hs1)
        have HO' := Hid.mk' (fun m => (ho.drew m).set1 (s.k + sz) ((s.k : Int) + (sz : Int)) (by omega) hs1)
        clear ho
        go_wp2
        try (go_quiet (fail); go_wp2)
        go_ret
        exact ⟨rfl, by first | exact HO.out | exact HO'.out _⟩
      · rw [if_neg hv]
        have hv' : (most : Int) < (v : Int) := by omega
        have HK := Hid.mk' (qfail_on (a := a) (cap := cap) (L := L) (T := T) (r := r) w hb 2 (s.k : Int) (by decide))
        go_enter Tryd.func42, Tryd.ntmps42
        go_wp2_with fail
        refine HN'.out.mono ?_
        rintro e w2 ⟨rfl, ho⟩
        have c1 := ho.1.c1
        have HON := Hid.mk' ho
        clear ho
        go_wp2_with fail
        refine (HK.out _ HON.out).mono ?_
        rintro e w3 ⟨rfl, ho⟩
        have HO := Hid.mk' ho
        clear ho
        go_wp2
        go_ret
        exact ⟨rfl, HO.out⟩
    · rw [if_neg hy]
      have HN' := Hid.mk' (qnum_no w h hb v sz why pl hN hy)
      clear HU h hN hok
      go_enter Tryd.func42, Tryd.ntmps42
      go_wp2_with fail
      refine HN'.out.mono ?_
      rintro e w2 ⟨rfl, ho⟩
      have HO := Hid.mk' ho
      clear ho
      go_wp2
      go_ret
      exact ⟨rfl, HO.out⟩
  · have e0 : rUint L most s = (0, s) := by unfold rUint; rw [if_neg hb]
    rw [e0]
    have HO := Hid.mk' h.on
    have c2 := h.c2
    clear h e0
    go_enter Tryd.func42, Tryd.ntmps42
    go_wp2
    go_ret
    exact ⟨rfl, HO.out⟩
set_option maxRecDepth 100000 in
set_option maxHeartbeats 1000000 in
theorem qint_any (w : World) (h : RD w T r a cap L s) :
    Calls Tryd.prog 40 #[.pointer (some ⟨r, 0, none⟩)] w fun e w' => e = .returned (.int .i64 (rInt L s).1) ∧ On w w' T r a cap L (rInt L s).2 := by
  have HU := Hid.mk' (quint_any 18446744073709551615 (by decide) w h)
  have hlt := rUint_lt L 18446744073709551615 s h.at_le
  unfold rInt
  generalize rUint L 18446744073709551615 s = u at *
  obtain ⟨n, s'⟩ := u
  simp only at HU hlt ⊢
  clear h
  by_cases h2 : n % 2 = 1
  · have h2' : (n : Int) % 2 = 1 := by omega
    go_enter Tryd.func40, Tryd.ntmps40
    go_wp2_with fail
    refine HU.out.mono ?_
    rintro e w1 ⟨rfl, ho⟩
    have HO := Hid.mk' ho
    clear ho HU
    go_wp2
    go_ret
    exact ⟨ret_int (by unfold unzig; rw [if_pos h2]; omega), HO.out⟩
  · have h2' : (n : Int) % 2 = 0 := by omega
    go_enter Tryd.func40, Tryd.ntmps40
    go_wp2_with fail
    refine HU.out.mono ?_
    rintro e w1 ⟨rfl, ho⟩
    have HO := Hid.mk' ho
    clear ho HU
    go_wp2
    go_ret
    exact ⟨ret_int (by unfold unzig; rw [if_neg h2]; omega), HO.out⟩
end Go.Proofs.YtphpaaajfcbafaaDoor.K
