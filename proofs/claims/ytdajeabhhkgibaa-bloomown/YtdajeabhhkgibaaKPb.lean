import Derived.Test.YtdajeabhhkgibaaKPn
namespace Go.Proofs.Ytdajeabhhkgibaa.K
open Go.RowKit
set_option linter.unusedVariables false
set_option linter.unusedSimpArgs false

def rByte (L : List UInt8) (s : St) : Int × St := if s.bad = 0 then (if s.k + 1 ≤ L.length then (at8 L s.k, ⟨s.k + 1, s.bad, s.wh⟩) else (0, ⟨s.k, 20, L.length⟩)) else (0, s)
def rBool (L : List UInt8) (s : St) : Bool × St := if s.bad = 0 then (if s.k + 1 ≤ L.length then (if at8 L s.k ≤ 1 then (decide (at8 L s.k = 1), ⟨s.k + 1, s.bad, s.wh⟩) else (false, ⟨s.k, 21, s.k⟩)) else (false, ⟨s.k, 20, L.length⟩)) else (false, s)
def rUint (L : List UInt8) (most : Nat) (s : St) : Nat × St :=
  if s.bad = 0 then (if (num L s.k).why = 0 then (if (num L s.k).v ≤ most then ((num L s.k).v, ⟨s.k + (num L s.k).size, s.bad, s.wh⟩) else (0, ⟨s.k, 2, s.k⟩)) else (0, ⟨s.k, (num L s.k).why, (num L s.k).place⟩)) else (0, s)
def unzig (n : Nat) : Int := if n % 2 = 1 then -((n / 2 : Nat) : Int) - 1 else ((n / 2 : Nat) : Int)
def rInt (L : List UInt8) (s : St) : Int × St := (unzig (rUint L 18446744073709551615 s).1, (rUint L 18446744073709551615 s).2)

variable {T : TypeId} {r cap : Nat} {a : Option Addr} {L : List UInt8} {s : St}

theorem keep_on (w : World) (hb : s.bad = 0) (e p : Int) (he : e ≠ 0) (wx : World) (h : On w wx T r a cap L s) : Calls Try.prog 109 #[.pointer (some ⟨r, 0, none⟩), .int .i64 e, .int .i64 p] wx fun x w' => x = .returned (.bool false) ∧ On w w' T r a cap L ⟨s.k, e, p⟩ := (keep_any e p wx h.1).mono fun x w' hx => by
  rw [St.fl_new s _ _ hb he] at hx
  exact ⟨by rw [hx.1]; simp [he], h.trans hx.2⟩
set_option maxRecDepth 100000 in
set_option maxHeartbeats 1000000 in
theorem byte_any (w : World) (h : RD w T r a cap L s) :
    Calls Try.prog 61 #[.pointer (some ⟨r, 0, none⟩)] w fun e w' => e = .returned (.int .u8 (rByte L s).1) ∧ On w w' T r a cap L (rByte L s).2 := by
  have HS : Hid (Calls Try.prog 107 #[.pointer (some ⟨r, 0, none⟩)] w fun e w' => e = .returned (.bool (decide (s.bad ≠ 0))) ∧ w' = w) := stopped_any w h
  by_cases hb : s.bad = 0
  · have HS' : Hid (Calls Try.prog 107 #[.pointer (some ⟨r, 0, none⟩)] w fun e w' => e = .returned (.bool false) ∧ w' = w) := by have := HS.out; rw [show decide (s.bad ≠ 0) = false by simp [hb]] at this; exact this
    clear HS
    by_cases hk : s.k + 1 ≤ L.length
    · have e0 : rByte L s = (at8 L s.k, ⟨s.k + 1, s.bad, s.wh⟩) := by unfold rByte; rw [if_pos hb, if_pos hk]
      rw [e0]
      clear e0
      have HNx : Hid (Calls Try.prog 110 #[.pointer (some ⟨r, 0, none⟩), .int .i64 1] w fun e w' => e = .returned (.tuple #[.slice (from23 a cap s.k) 1 (cap - s.k), .bool true]) ∧ ∃ m, w' = w.drewN m) := next_ok 1 w h hk
      have HO : Hid (∀ m, On w ((w.drewN m).setCell ⟨r, 1, none⟩ (.int .i64 ((s.k : Int) + 1))) T r a cap L ⟨s.k + 1, s.bad, s.wh⟩) := fun m => (h.on.drew m).set1 (s.k + 1) _ (by omega) hk
      have c1 := h.c1
      have f1 := h.fz 1
      have hf := h.few
      rcases h.cells with hz | ⟨b, off, eA, hlt, hbr, hc⟩
      · omega
      have cb : ∀ m v, ((w.drewN m).setCell ⟨r, 1, none⟩ v).cell? ⟨b, off, none⟩ = some (.int .u8 (at8 L s.k)) := fun m v => by
        rw [World.cell?_setCell_other _ _ _ _ (by simp [hbr])]
        exact hc 0 (by omega)
      rw [eA] at HNx
      clear h hc eA
      generalize cap - s.k = c4 at *
      generalize at8 L s.k = bv at *
      go_enter Try.func61, Try.ntmps61
      go_wp2_with fail
      refine HS'.out.mono ?_
      rintro e w1 ⟨rfl, hw1⟩
      subst hw1
      go_wp2_with fail
      refine HNx.out.mono ?_
      rintro e w2 ⟨rfl, m, rfl⟩
      go_wp2
      go_ret
      exact ⟨rfl, HO.out m⟩
    · have e0 : rByte L s = (0, ⟨s.k, 20, L.length⟩) := by unfold rByte; rw [if_pos hb, if_neg hk]
      rw [e0]
      clear e0
      have HNx : Hid (Calls Try.prog 110 #[.pointer (some ⟨r, 0, none⟩), .int .i64 1] w fun e w' => e = .returned (.tuple #[.slice none 0 0, .bool false]) ∧ On w w' T r a cap L ⟨s.k, 20, L.length⟩) := next_no 1 w h hb hk (by decide)
      clear h
      go_enter Try.func61, Try.ntmps61
      go_wp2_with fail
      refine HS'.out.mono ?_
      rintro e w1 ⟨rfl, hw1⟩
      subst hw1
      go_wp2_with fail
      refine HNx.out.mono ?_
      rintro e w2 ⟨rfl, ho⟩
      have HO := Hid.mk' ho
      clear ho
      go_wp2
      go_ret
      exact ⟨rfl, HO.out⟩
  · have HS' : Hid (Calls Try.prog 107 #[.pointer (some ⟨r, 0, none⟩)] w fun e w' => e = .returned (.bool true) ∧ w' = w) := by have := HS.out; rw [show decide (s.bad ≠ 0) = true by simp [hb]] at this; exact this
    have e0 : rByte L s = (0, s) := by unfold rByte; rw [if_neg hb]
    rw [e0]
    have HO := Hid.mk' h.on
    clear HS h e0
    go_enter Try.func61, Try.ntmps61
    go_wp2_with fail
    refine HS'.out.mono ?_
    rintro e w1 ⟨rfl, hw1⟩
    subst hw1
    go_wp2
    go_ret
    exact ⟨rfl, HO.out⟩

set_option maxRecDepth 100000 in
set_option maxHeartbeats 1000000 in
theorem uint_any (most : Nat) (hm : most < 18446744073709551616) (w : World) (h : RD w T r a cap L s) :
    Calls Try.prog 59 #[.pointer (some ⟨r, 0, none⟩), .int .u64 (most : Int)] w fun e w' => e = .returned (.int .u64 ((rUint L most s).1 : Int)) ∧ On w w' T r a cap L (rUint L most s).2 := by
  have HS : Hid (Calls Try.prog 107 #[.pointer (some ⟨r, 0, none⟩)] w fun e w' => e = .returned (.bool (decide (s.bad ≠ 0))) ∧ w' = w) := stopped_any w h
  by_cases hb : s.bad = 0
  · have HS' : Hid (Calls Try.prog 107 #[.pointer (some ⟨r, 0, none⟩)] w fun e w' => e = .returned (.bool false) ∧ w' = w) := by have := HS.out; rw [show decide (s.bad ≠ 0) = false by simp [hb]] at this; exact this
    clear HS
    have HU : rUint L most s = (if (num L s.k).why = 0 then (if (num L s.k).v ≤ most then ((num L s.k).v, ⟨s.k + (num L s.k).size, s.bad, s.wh⟩) else (0, ⟨s.k, 2, s.k⟩)) else (0, ⟨s.k, (num L s.k).why, (num L s.k).place⟩)) := by unfold rUint; rw [if_pos hb]
    rw [HU]
    clear HU
    have HN := Hid.mk' (number_any w h hb)
    have hok := num_ok L s.k h.at_le
    generalize num L s.k = N at *
    obtain ⟨v, sz, why, pl⟩ := N
    simp only at HN hok ⊢
    by_cases hy : why = 0
    · subst hy
      rw [if_pos rfl]
      have HN' : Hid (Calls Try.prog 108 #[.pointer (some ⟨r, 0, none⟩)] w fun e w' => e = .returned (.tuple #[.int .u64 (v : Int), .int .i64 (sz : Int), .bool true]) ∧ On w w' T r a cap L s) := HN.out.mono fun e w' hx => by
        rw [St.fl_ok] at hx
        exact hx
      obtain ⟨hs0, hs1, hv64⟩ := hok.1 rfl
      have hf := h.few
      clear HN h
      by_cases hv : v ≤ most
      · rw [if_pos hv]
        have hv' : ¬ (most : Int) < (v : Int) := by omega
        go_enter Try.func59, Try.ntmps59
        go_wp2_with fail
        refine HS'.out.mono ?_
        rintro e w1 ⟨rfl, hw1⟩
        subst hw1
        go_wp2_with fail
        refine HN'.out.mono ?_
        rintro e w2 ⟨rfl, ho⟩
        have c1 := ho.1.c1
        have f1 := ho.1.fz 1
        have HO := Hid.mk' (ho.set1 (s.k + sz) ((s.k : Int) + (sz : Int)) (by omega) hs1)
        clear ho
        go_wp2
        go_ret
        exact ⟨rfl, HO.out⟩
      · rw [if_neg hv]
        have hv' : (most : Int) < (v : Int) := by omega
        go_enter Try.func59, Try.ntmps59
        go_wp2_with fail
        refine HS'.out.mono ?_
        rintro e w1 ⟨rfl, hw1⟩
        subst hw1
        go_wp2_with fail
        refine HN'.out.mono ?_
        rintro e w2 ⟨rfl, ho⟩
        have c1 := ho.1.c1
        have HK := Hid.mk' (keep_on (a := a) (cap := cap) (L := L) (T := T) (r := r) w1 hb 2 (s.k : Int) (by decide))
        have HON := Hid.mk' ho
        clear ho
        go_wp2
        go_region_held3 (fun w' => w'.cell? ⟨r, 1, none⟩ = some (.int .i64 (s.k : Int))) (first | assumption | go_keep) (first
          | (go_at_call 109; refine (HK.out _ ?_).mono ?_; (first | exact HON.out | exact HON.out.drew _ | exact (HON.out.drew _).drew 1); rintro e w3 ⟨rfl, ho⟩; have s1 := ho.1.c1; have HO := Hid.mk' ho; clear ho)
          | fail)
        go_wp2
        go_ret
        exact ⟨rfl, HO.out⟩
    · rw [if_neg hy]
      have HN' : Hid (Calls Try.prog 108 #[.pointer (some ⟨r, 0, none⟩)] w fun e w' => e = .returned (.tuple #[.int .u64 (v : Int), .int .i64 (sz : Int), .bool false]) ∧ On w w' T r a cap L ⟨s.k, why, pl⟩) := HN.out.mono fun e w' hx => by
        rw [St.fl_new s _ _ hb hy] at hx
        rw [show decide (why = 0) = false by simp [hy]] at hx
        exact hx
      clear HN h
      go_enter Try.func59, Try.ntmps59
      go_wp2_with fail
      refine HS'.out.mono ?_
      rintro e w1 ⟨rfl, hw1⟩
      subst hw1
      go_wp2_with fail
      refine HN'.out.mono ?_
      rintro e w2 ⟨rfl, ho⟩
      have HO := Hid.mk' ho
      clear ho
      go_wp2
      go_ret
      exact ⟨rfl, HO.out⟩
  · have HS' : Hid (Calls Try.prog 107 #[.pointer (some ⟨r, 0, none⟩)] w fun e w' => e = .returned (.bool true) ∧ w' = w) := by have := HS.out; rw [show decide (s.bad ≠ 0) = true by simp [hb]] at this; exact this
    have e0 : rUint L most s = (0, s) := by unfold rUint; rw [if_neg hb]
    rw [e0]
    have HO := Hid.mk' h.on
    clear HS h e0
    go_enter Try.func59, Try.ntmps59
    go_wp2_with fail
    refine HS'.out.mono ?_
    rintro e w1 ⟨rfl, hw1⟩
    subst hw1
    go_wp2
    go_ret
    exact ⟨rfl, HO.out⟩
theorem rUint_lt (L : List UInt8) (most : Nat) (s : St) (hk : s.k ≤ L.length) : (rUint L most s).1 < 18446744073709551616 := by
  unfold rUint
  have := num_ok L s.k hk
  repeat' split
  all_goals first | (simp only; omega) | (have := this.1 (by assumption); simp only; omega)
end Go.Proofs.Ytdajeabhhkgibaa.K
