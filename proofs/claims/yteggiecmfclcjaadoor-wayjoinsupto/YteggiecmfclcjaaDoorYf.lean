import Derived.Test.YteggiecmfclcjaaDoorYe
import Derived.Deep.QuietTactic
import Derived.BigQuiet
namespace Go.Proofs.YteggiecmfclcjaaDoor
open Go.RowKit
set_option linter.unusedVariables false
set_option linter.unusedSimpArgs false

theorem Sts.take {W : World} {a : Option Addr} {l : List St} (h : Sts W a l) (k : Nat) : Sts W a (l.take k) := by
  rcases h with rfl | ⟨b, off, rfl, h⟩
  · exact .inl (by simp)
  · refine .inr ⟨b, off, rfl, fun i p e => h i p ?_⟩
    rw [List.getElem?_take] at e
    split at e
    · exact e
    · cases e
set_option maxRecDepth 100000 in
set_option maxHeartbeats 1000000 in
theorem same_any (a b : Option Addr) (l m : List St) (c d : Nat) (w : World) (ha : Sts w a l) (hb : Sts w b m) (hl : l.length ≤ 140737488355328) (hm : m.length ≤ 140737488355328) :
    Calls Tryd.prog 8 #[.slice a l.length c, .slice b m.length d] w fun e w' => e = .returned (.bool (decide (cL l m = 0))) ∧ Below w.heap.size w w' := by
  have H := Hid.mk' (rcompare_any a b l m c d w ha hb hl hm)
  clear ha hb
  generalize l.length = n at *
  generalize m.length = q at *
  generalize cL l m = C at *
  by_cases hC : C = 0
  · subst hC
    go_enter Tryd.func8, Tryd.ntmps8
    go_wp2_with fail
    refine H.out.mono ?_
    rintro e w1 ⟨rfl, b1⟩
    go_wp2
    go_ret
    exact ⟨rfl, b1⟩
  · rw [decide_eq_false hC]
    go_enter Tryd.func8, Tryd.ntmps8
    go_wp2_with fail
    refine H.out.mono ?_
    rintro e w1 ⟨rfl, b1⟩
    go_wp2
    go_ret
    exact ⟨by simp [hC], b1⟩
set_option maxRecDepth 100000 in
set_option maxHeartbeats 2000000 in
theorem equal_any (a b : Option Addr) (l m : List St) (c d : Nat) (w : World) (ha : Sts w a l) (hb : Sts w b m) (hl : l.length ≤ 140737488355328) (hm : m.length ≤ 140737488355328) :
    Calls Tryd.prog 20 #[.slice a l.length c, .slice b m.length d] w fun e w' => e = .returned (.bool (decide (cL l m = 0))) ∧ Below w.heap.size w w' := by
  by_cases hne : l.length = m.length
  · have HA := Hid.mk' (fun wx (h : Below w.heap.size w wx) => ha.below h)
    have HB := Hid.mk' (fun wx (h : Below w.heap.size w wx) => hb.below h)
    obtain ⟨n, hn⟩ : ∃ n, n = l.length := ⟨_, rfl⟩
    rw [← hne, ← hn] at hm ⊢
    rw [← hn] at hl hne
    have HN := Hid.mk' hn
    have HQ := Hid.mk' hne
    obtain ⟨R, hR⟩ : ∃ R, R = cL l m := ⟨_, rfl⟩
    rw [← hR]
    have HR := Hid.mk' hR
    clear ha hb hn hne hR
    go_enter Tryd.func20, Tryd.ntmps20
    go_wp2
    go_loopw [13] (fun i wr => ∃ k : Nat, k ≤ n ∧ i = .int .i64 k ∧ Hid (Below w.heap.size w wr) ∧ Hid (l.take k = m.take k)) (fun i _ => n - (intOf i).toNat)
    case atStart => exact ⟨0, by omega, rfl, Below.refl _ _, by simp [Hid]⟩
    case round =>
      obtain ⟨k, hk, rfl, HW, HT⟩ := hrel
      have HC : Hid (R = cL (l.drop k) (m.drop k)) := HR.out.trans (cL_step k HT.out (by rw [← HN.out]; omega) (by rw [← HQ.out]; omega))
      by_cases hkn : k < n
      · have hkn' : (k : Int) < (n : Int) := by omega
        obtain ⟨b1, o1, p, rfl, hp, c0, c1, c2⟩ := (HA.out wr HW.out).at (i := k) (by rw [← HN.out]; omega)
        obtain ⟨b2, o2, p2, rfl, hp2, d0, d1, d2⟩ := (HB.out wr HW.out).at (i := k) (by rw [← HQ.out]; omega)
        have HP := Hid.mk' hp
        have HP2 := Hid.mk' hp2
        have ix := fun wx => indexS b1 o1 n c k wx hkn
        have ix2 := fun wx => indexS b2 o2 n d k wx hkn
        clear hp hp2
        obtain ⟨pk, ps, pn⟩ := p
        obtain ⟨pk2, ps2, pn2⟩ := p2
        simp only [] at c0 c1 c2 d0 d1 d2
        have HC2 : Hid (R = or2 (cSt ⟨pk, ps, pn⟩ ⟨pk2, ps2, pn2⟩) (cL (l.drop (k + 1)) (m.drop (k + 1)))) := by show _ = _; rw [HC.out, drop_at HP.out, drop_at HP2.out]; rfl
        have HC3 : Hid (cSt ⟨pk, ps, pn⟩ ⟨pk2, ps2, pn2⟩ = 0 → l.take (k + 1) = m.take (k + 1)) := fun h => by
          have e := cSt_zero.1 h
          have h1 := HP.out
          rw [e] at h1
          exact take_at HT.out h1 HP2.out
        have he : ∀ wx, (Op.equalIn 10000 32 (.agg #[.int .u8 pk, .string ps, .int .i64 pn]) (.agg #[.int .u8 pk2, .string ps2, .int .i64 pn2])).run Tryd.prog wx = .ok (decide (cSt ⟨pk, ps, pn⟩ ⟨pk2, ps2, pn2⟩ = 0)) wx := fun wx => eqSt ⟨pk, ps, pn⟩ ⟨pk2, ps2, pn2⟩ wx
        clear HC HP HP2
        generalize cSt ⟨pk, ps, pn⟩ ⟨pk2, ps2, pn2⟩ = C at *
        by_cases hC : C = 0
        · have HT2 : Hid (l.take (k + 1) = m.take (k + 1)) := HC3.out hC
          rw [decide_eq_true hC] at he
          clear hC HC3 HC2
          go_wp2
          go_quiet (fail)
          go_wp2
          exact ⟨⟨k + 1, by omega, by go_num, below_drewN HW.out _, HT2⟩, by simp [intOf]; omega⟩
        · have HRR : Hid (R ≠ 0) := by show _ ≠ _; rw [HC2.out]; unfold or2; rw [if_neg hC]; exact hC
          rw [decide_eq_false hC] at he
          clear hC HC3 HC2
          go_wp2
          go_quiet (fail)
          go_wp2
          go_ret
          exact ⟨by rw [decide_eq_false HRR.out]; rfl, below_drewN HW.out _⟩
      · obtain rfl : k = n := by omega
        have HRR : Hid (R = 0) := by
          show _ = _
          rw [HC.out, show l.drop k = [] from by rw [List.drop_eq_nil_iff]; rw [← HN.out]; exact Nat.le_refl _, show m.drop k = [] from by rw [List.drop_eq_nil_iff]; rw [← HQ.out]; exact Nat.le_refl _]
          rfl
        go_wp2
        go_ret
        exact ⟨by rw [decide_eq_true HRR.out]; rfl, HW.out⟩
  · have hR : ¬ cL l m = 0 := fun h => hne (by rw [cL_zero.1 h])
    rw [decide_eq_false hR]
    generalize l.length = n at *
    generalize m.length = q at *
    have hne' : ¬ (n : Int) = (q : Int) := by omega
    clear ha hb hR
    go_enter Tryd.func20, Tryd.ntmps20
    go_wp2
    go_ret
    exact ⟨rfl, Below.refl _ _⟩
/-- Whether a way starts with another. -/
def stB (l m : List St) : Bool := decide (m.length ≤ l.length) && decide (cL (l.take m.length) m = 0)
set_option maxRecDepth 100000 in
set_option maxHeartbeats 2000000 in
theorem starts_any (a b : Option Addr) (l m : List St) (c d : Nat) (w : World) (ha : Sts w a l) (hb : Sts w b m) (hc : l.length ≤ c) (hl : l.length ≤ 140737488355328) (hm : m.length ≤ 140737488355328) :
    Calls Tryd.prog 13 #[.slice a l.length c, .slice b m.length d] w fun e w' => e = .returned (.bool (stB l m)) ∧ Below w.heap.size w w' := by
  unfold stB
  by_cases hle : m.length ≤ l.length
  · have hlen : (l.take m.length).length = m.length := by rw [List.length_take]; omega
    have H := Hid.mk' (equal_any a b (l.take m.length) m c d w (ha.take _) hb (by rw [hlen]; omega) hm)
    rw [hlen] at H
    rw [decide_eq_true hle]
    clear ha hb hlen
    generalize cL (l.take m.length) m = C at *
    generalize l.length = n at *
    generalize m.length = q at *
    have hle' : (q : Int) ≤ (n : Int) := by omega
    go_enter Tryd.func13, Tryd.ntmps13
    go_wp2_with fail
    refine H.out.mono ?_
    rintro e w1 ⟨rfl, b1⟩
    go_wp2
    go_ret
    exact ⟨by simp, b1⟩
  · rw [decide_eq_false hle]
    clear ha hb
    generalize cL (l.take m.length) m = C at *
    generalize l.length = n at *
    generalize m.length = q at *
    have hle' : ¬ (q : Int) ≤ (n : Int) := by omega
    go_enter Tryd.func13, Tryd.ntmps13
    go_wp2
    go_ret
    exact ⟨rfl, Below.refl _ _⟩
end Go.Proofs.YteggiecmfclcjaaDoor
