import Derived.Test.YtdajeabhhkgibaaKPb
namespace Go.Proofs.Ytdajeabhhkgibaa.K
open Go.RowKit
set_option linter.unusedVariables false
set_option linter.unusedSimpArgs false

def rCnt (L : List UInt8) (most : Nat) (s : St) : Option (Nat × Nat) × St :=
  if (num L s.k).why = 0 then (if (num L s.k).v ≤ most then (if (num L s.k).v + (s.k + (num L s.k).size) ≤ L.length then (some ((num L s.k).v, (num L s.k).size), s) else (none, ⟨s.k, 20, L.length⟩)) else (none, ⟨s.k, 6, s.k⟩)) else (none, ⟨s.k, (num L s.k).why, (num L s.k).place⟩)
theorem rCnt_some {L : List UInt8} {most : Nat} {s : St} {n hd : Nat} {s' : St} (h : rCnt L most s = (some (n, hd), s')) (hk : s.k ≤ L.length) : s' = s ∧ n ≤ most ∧ n + (s.k + hd) ≤ L.length ∧ 0 < hd := by
  have := num_ok L s.k hk
  unfold rCnt at h
  split at h
  · split at h
    · split at h
      · simp only [Prod.mk.injEq, Option.some.injEq] at h
        rename_i h0 h1 h2
        have h3 := this.1 h0
        exact ⟨h.2.symm, by omega, by omega, by omega⟩
      · simp at h
    · simp at h
  · simp at h
variable {T : TypeId} {r cap : Nat} {a : Option Addr} {L : List UInt8} {s : St}
set_option maxRecDepth 100000 in
set_option maxHeartbeats 2000000 in
theorem counted_some (most : Nat) (hm : most ≤ 9223372036854775807) (w : World) (h : RD w T r a cap L s) (hb : s.bad = 0) (n hd : Nat) (hc : rCnt L most s = (some (n, hd), s)) :
    Calls Try.prog 111 #[.pointer (some ⟨r, 0, none⟩), .int .i64 (most : Int), .int .i64 1] w fun e w' => e = .returned (.tuple #[.slice (from23 a cap (s.k + hd)) n (cap - (s.k + hd)), .int .i64 (hd : Int), .bool true]) ∧ On w w' T r a cap L s := by
  have HN := Hid.mk' (number_any w h hb)
  have hok := num_ok L s.k h.at_le
  unfold rCnt at hc
  generalize num L s.k = N at *
  obtain ⟨v, sz, why, pl⟩ := N
  simp only at HN hok hc ⊢
  have h1 : why = 0 := by
    refine Classical.byContradiction fun hn => ?_
    rw [if_neg hn] at hc
    simp at hc
  rw [if_pos h1] at hc
  have h2 : v ≤ most := by
    refine Classical.byContradiction fun hn => ?_
    rw [if_neg hn] at hc
    simp at hc
  rw [if_pos h2] at hc
  have h3 : v + (s.k + sz) ≤ L.length := by
    refine Classical.byContradiction fun hn => ?_
    rw [if_neg hn] at hc
    simp at hc
  rw [if_pos h3] at hc
  simp only [Prod.mk.injEq, Option.some.injEq, and_true] at hc
  obtain ⟨rfl, rfl⟩ := hc
  subst h1
  have HN' : Hid (Calls Try.prog 108 #[.pointer (some ⟨r, 0, none⟩)] w fun e w' => e = .returned (.tuple #[.int .u64 (v : Int), .int .i64 (sz : Int), .bool true]) ∧ On w w' T r a cap L s) := HN.out.mono fun e w' hx => by
    rw [St.fl_ok] at hx
    exact hx
  have hf := h.few
  have hr := h.room
  have HL := Hid.mk' (fun (wx : World) (hx : On w wx T r a cap L s) => cleft_any wx hx.1)
  have s1 := sl_mid a L.length cap (s.k + sz) (s.k + sz + v) ((s.k : Int) + (sz : Int)) ((s.k : Int) + (sz : Int) + (v : Int)) (by omega) (by omega) (by omega) (by omega)
  have s2 := sl_mid' a L.length cap (s.k + sz) (s.k + sz + v) ((s.k : Int) + (sz : Int)) ((s.k : Int) + (sz : Int) + (v : Int)) (by omega) (by omega) (by omega) (by omega)
  rw [Nat.add_sub_cancel_left] at s1 s2
  clear HN h
  generalize from23 a cap (s.k + sz) = a4 at *
  generalize cap - (s.k + sz) = c4 at *
  have g1 : ¬ (most : Int) < 0 := by omega
  have g2 : ¬ (most : Int) < (v : Int) := by omega
  have g3 : ¬ ((L.length : Int) - (s.k : Int) - (sz : Int)) < (v : Int) := by omega
  go_enter Try.func111, Try.ntmps111
  go_wp2_with fail
  refine HN'.out.mono ?_
  rintro e w1 ⟨rfl, ho⟩
  have HON := Hid.mk' ho
  have c0 := ho.1.c0
  have c1 := ho.1.c1
  clear ho
  go_wp2_with fail
  refine (HL.out w1 HON.out).mono ?_
  rintro e w2 ⟨rfl, m, rfl⟩
  have HON2 := Hid.mk' (HON.out.drew m)
  go_wp2
  try (go_quiet (fail); go_wp2)
  go_ret3
  exact ⟨rfl, HON2.out⟩
set_option maxRecDepth 100000 in
set_option maxHeartbeats 2000000 in
theorem counted_none (most : Nat) (hm : most ≤ 9223372036854775807) (w : World) (h : RD w T r a cap L s) (hb : s.bad = 0) (s' : St) (hc : rCnt L most s = (none, s')) :
    Calls Try.prog 111 #[.pointer (some ⟨r, 0, none⟩), .int .i64 (most : Int), .int .i64 1] w fun e w' => e = .returned (.tuple #[.slice none 0 0, .int .i64 0, .bool false]) ∧ On w w' T r a cap L s' := by
  have HN := Hid.mk' (number_any w h hb)
  have hok := num_ok L s.k h.at_le
  have HAt := Hid.mk' (fun (wx : World) (hx : On w wx T r a cap L s) => cat_any wx hx.1)
  have HL := Hid.mk' (fun (wx : World) (hx : On w wx T r a cap L s) => cleft_any wx hx.1)
  have hf := h.few
  have hr := h.room
  unfold rCnt at hc
  generalize num L s.k = N at *
  obtain ⟨v, sz, why, pl⟩ := N
  simp only at HN hok hc ⊢
  by_cases h1 : why = 0
  · subst h1
    rw [if_pos rfl] at hc
    have HN' : Hid (Calls Try.prog 108 #[.pointer (some ⟨r, 0, none⟩)] w fun e w' => e = .returned (.tuple #[.int .u64 (v : Int), .int .i64 (sz : Int), .bool true]) ∧ On w w' T r a cap L s) := HN.out.mono fun e w' hx => by
      rw [St.fl_ok] at hx
      exact hx
    obtain ⟨k1, k2, k3⟩ := hok.1 rfl
    clear HN h hok
    by_cases h2 : v ≤ most
    · rw [if_pos h2] at hc
      by_cases h3 : v + (s.k + sz) ≤ L.length
      · rw [if_pos h3] at hc
        simp at hc
      · rw [if_neg h3] at hc
        simp only [Prod.mk.injEq, true_and] at hc
        subst hc
        have HK := Hid.mk' (keep_on (a := a) (cap := cap) (L := L) (T := T) (r := r) w hb 20 (L.length : Int) (by decide))
        have g1 : ¬ (most : Int) < 0 := by omega
        have g2 : ¬ (most : Int) < (v : Int) := by omega
        have g3 : ((L.length : Int) - (s.k : Int) - (sz : Int)) < (v : Int) := by omega
        go_enter Try.func111, Try.ntmps111
        go_wp2_with fail
        refine HN'.out.mono ?_
        rintro e w1 ⟨rfl, ho⟩
        have HON := Hid.mk' ho
        have c0 := ho.1.c0
        have c1 := ho.1.c1
        clear ho
        go_wp2_with fail
        refine (HL.out w1 HON.out).mono ?_
        rintro e w2 ⟨rfl, m, hw2⟩
        have HON2 : Hid (On w w2 T r a cap L s) := by show On _ _ _ _ _ _ _ _; rw [hw2]; exact HON.out.drew m
        have c0' := HON2.out.1.c0
        clear hw2 HON c0 c1
        go_wp2_with fail
        refine (HK.out w2 HON2.out).mono ?_
        rintro e w3 ⟨rfl, ho⟩
        have HO2 := Hid.mk' ho
        clear ho
        go_wp2
        go_ret3
        exact ⟨rfl, HO2.out⟩
    · rw [if_neg h2] at hc
      simp only [Prod.mk.injEq, true_and] at hc
      subst hc
      have HK := Hid.mk' (keep_on (a := a) (cap := cap) (L := L) (T := T) (r := r) w hb 6 (s.k : Int) (by decide))
      have g1 : ¬ (most : Int) < 0 := by omega
      have g2 : (most : Int) < (v : Int) := by omega
      go_enter Try.func111, Try.ntmps111
      go_wp2_with fail
      refine HN'.out.mono ?_
      rintro e w1 ⟨rfl, ho⟩
      have HON := Hid.mk' ho
      clear ho
      go_wp2_with fail
      refine (HAt.out w1 HON.out).mono ?_
      rintro e w2 ⟨rfl, hw2⟩
      subst hw2
      go_wp2_with fail
      refine (HK.out w2 HON.out).mono ?_
      rintro e w3 ⟨rfl, ho⟩
      have HO2 := Hid.mk' ho
      clear ho
      go_wp2
      go_ret3
      exact ⟨rfl, HO2.out⟩
  · rw [if_neg h1] at hc
    simp only [Prod.mk.injEq, true_and] at hc
    subst hc
    have HN' : Hid (Calls Try.prog 108 #[.pointer (some ⟨r, 0, none⟩)] w fun e w' => e = .returned (.tuple #[.int .u64 (v : Int), .int .i64 (sz : Int), .bool false]) ∧ On w w' T r a cap L ⟨s.k, why, pl⟩) := HN.out.mono fun e w' hx => by
      rw [St.fl_new s _ _ hb h1] at hx
      rw [show decide (why = 0) = false by simp [h1]] at hx
      exact hx
    clear HN h
    go_enter Try.func111, Try.ntmps111
    go_wp2_with fail
    refine HN'.out.mono ?_
    rintro e w1 ⟨rfl, ho⟩
    have HO2 := Hid.mk' ho
    clear ho
    go_wp2
    go_ret3
    exact ⟨rfl, HO2.out⟩
end Go.Proofs.Ytdajeabhhkgibaa.K
