import Derived.Test.YtnbdohomaadbfaaKQu
import Derived.Test.YtnbdohomaadbfaaKPr
namespace Go.Proofs.Ytnbdohomaadbfaa.K
open Go.RowKit
set_option linter.unusedVariables false
set_option linter.unusedSimpArgs false

variable {T : TypeId} {r cap : Nat} {a : Option Addr} {L : List UInt8} {s : St}
theorem rCnt_num {L : List UInt8} {most : Nat} {s : St} {n hd : Nat} (h : rCnt L most s = (some (n, hd), s)) : ∃ pl, num L s.k = ⟨n, hd, 0, pl⟩ ∧ n ≤ most ∧ n + (s.k + hd) ≤ L.length := by
  unfold rCnt at h
  generalize num L s.k = N at *
  obtain ⟨v, sz, why, pl⟩ := N
  simp only at h
  split at h
  · split at h
    · split at h
      · simp only [Prod.mk.injEq, Option.some.injEq, and_true] at h
        obtain ⟨rfl, rfl⟩ := h
        rename_i h0 h1 h2
        subst h0
        exact ⟨pl, rfl, h1, h2⟩
      · simp at h
    · simp at h
  · simp at h
set_option maxRecDepth 100000 in
set_option maxHeartbeats 2000000 in
theorem qlen_some (most : Nat) (hm : most ≤ 1000000) (w : World) (h : RD w T r a cap L s) (hb : s.bad = 0) (n hd : Nat) (hc : rCnt L most s = (some (n, hd), s)) :
    Calls Try.prog 116 #[.pointer (some ⟨r, 0, none⟩), .int .i64 (most : Int), .int .i64 1] w fun e w' => e = .returned (.tuple #[.int .i64 (n : Int), .int .i64 ((s.k : Int) + (hd : Int)), .bool true]) ∧ On w w' T r a cap L s := by
  obtain ⟨pl, hN, h2, h3⟩ := rCnt_num hc
  have hok := num_ok L s.k h.at_le
  rw [hN] at hok
  obtain ⟨k1, k2, k3⟩ := hok.1 rfl
  simp only at k1 k2 k3
  have HN' := Hid.mk' (qnum_ok w h hb n hd pl hN)
  have hf := h.few
  have c2 := h.c2
  rw [hb] at c2
  clear h hN hok hc
  have g0 : ¬ (hd : Int) = 0 := by omega
  have g1 : ¬ (most : Int) < 0 := by omega
  have g2 : ¬ (most : Int) < (n : Int) := by omega
  have g3 : ¬ ((L.length : Int) - ((s.k : Int) + (hd : Int))) < (n : Int) := by omega
  go_enter Try.func116, Try.ntmps116
  go_wp2_with fail
  refine HN'.out.mono ?_
  rintro e w1 ⟨rfl, ho⟩
  have HON := Hid.mk' ho
  have c0 := ho.1.c0
  have c1 := ho.1.c1
  clear ho
  go_wp2
  try (go_quiet (fail); go_wp2)
  try (go_quiet (fail); go_wp2)
  go_ret3
  exact ⟨rfl, by first | exact HON.out | exact HON.out.drew _ | exact (HON.out.drew _).drew _⟩
set_option maxRecDepth 100000 in
set_option maxHeartbeats 2000000 in
theorem qlen_none (most : Nat) (hm : most ≤ 1000000) (w : World) (h : RD w T r a cap L s) (hb : s.bad = 0) (s' : St) (hc : rCnt L most s = (none, s')) :
    Calls Try.prog 116 #[.pointer (some ⟨r, 0, none⟩), .int .i64 (most : Int), .int .i64 1] w fun e w' => e = .returned (.tuple #[.int .i64 0, .int .i64 0, .bool false]) ∧ On w w' T r a cap L s' := by
  have hok := num_ok L s.k h.at_le
  have hf := h.few
  have c2 := h.c2
  rw [hb] at c2
  unfold rCnt at hc
  rcases hN : num L s.k with ⟨v, sz, why, pl⟩
  rw [hN] at hok hc
  simp only at hok hc
  by_cases h1 : why = 0
  · subst h1
    rw [if_pos rfl] at hc
    have HN' := Hid.mk' (qnum_ok w h hb v sz pl hN)
    obtain ⟨k1, k2, k3⟩ := hok.1 rfl
    have g0 : ¬ (sz : Int) = 0 := by omega
    clear h hok hN
    by_cases h2 : v ≤ most
    · rw [if_pos h2] at hc
      by_cases h3 : v + (s.k + sz) ≤ L.length
      · rw [if_pos h3] at hc
        simp at hc
      · rw [if_neg h3] at hc
        simp only [Prod.mk.injEq, true_and] at hc
        subst hc
        have HK := Hid.mk' (qfail_on (a := a) (cap := cap) (L := L) (T := T) (r := r) w hb 20 (L.length : Int) (by decide))
        have g1 : ¬ (most : Int) < 0 := by omega
        have g2 : ¬ (most : Int) < (v : Int) := by omega
        have g3 : ((L.length : Int) - ((s.k : Int) + (sz : Int))) < (v : Int) := by omega
        go_enter Try.func116, Try.ntmps116
        go_wp2_with fail
        refine HN'.out.mono ?_
        rintro e w1 ⟨rfl, ho⟩
        have HON := Hid.mk' ho
        have c0 := ho.1.c0
        have c1 := ho.1.c1
        clear ho
        go_wp2_with fail
        refine (HK.out _ HON.out).mono ?_
        rintro e w3 ⟨rfl, ho⟩
        have HO2 := Hid.mk' ho
        clear ho
        go_wp2
        go_ret3
        exact ⟨rfl, HO2.out⟩
    · rw [if_neg h2] at hc
      simp only [Prod.mk.injEq, true_and] at hc
      subst hc
      have HK := Hid.mk' (qfail_on (a := a) (cap := cap) (L := L) (T := T) (r := r) w hb 6 (s.k : Int) (by decide))
      have g1 : ¬ (most : Int) < 0 := by omega
      have g2 : (most : Int) < (v : Int) := by omega
      go_enter Try.func116, Try.ntmps116
      go_wp2_with fail
      refine HN'.out.mono ?_
      rintro e w1 ⟨rfl, ho⟩
      have HON := Hid.mk' ho
      have c1 := ho.1.c1
      clear ho
      go_wp2_with fail
      refine (HK.out _ HON.out).mono ?_
      rintro e w3 ⟨rfl, ho⟩
      have HO2 := Hid.mk' ho
      clear ho
      go_wp2
      go_ret3
      exact ⟨rfl, HO2.out⟩
  · rw [if_neg h1] at hc
    simp only [Prod.mk.injEq, true_and] at hc
    subst hc
    have HN' := Hid.mk' (qnum_no w h hb v sz why pl hN h1)
    clear h hN hok
    go_enter Try.func116, Try.ntmps116
    go_wp2_with fail
    refine HN'.out.mono ?_
    rintro e w1 ⟨rfl, ho⟩
    have HO2 := Hid.mk' ho
    clear ho
    go_wp2
    go_ret3
    exact ⟨rfl, HO2.out⟩
set_option maxRecDepth 100000 in
set_option maxHeartbeats 2000000 in
theorem qlen_bad (most : Nat) (w : World) (h : RD w T r a cap L s) (hb : ¬ s.bad = 0) :
    Calls Try.prog 116 #[.pointer (some ⟨r, 0, none⟩), .int .i64 (most : Int), .int .i64 1] w fun e w' => e = .returned (.tuple #[.int .i64 0, .int .i64 0, .bool false]) ∧ On w w' T r a cap L s := by
  have HO := Hid.mk' h.on
  have c2 := h.c2
  clear h
  go_enter Try.func116, Try.ntmps116
  go_wp2
  go_ret3
  exact ⟨rfl, HO.out⟩
end Go.Proofs.Ytnbdohomaadbfaa.K
