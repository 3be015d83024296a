import Derived.Test.YtefoipjbbfcjhaaDoorDn
import Derived.Test.YtefoipjbbfcjhaaDoorDm0
namespace Go.Proofs.YtefoipjbbfcjhaaDoor
open Go.RowKit
set_option linter.unusedVariables false
set_option linter.unusedSimpArgs false

set_option maxRecDepth 100000 in
set_option maxHeartbeats 40000000 in
theorem keptE_abs (la lb FR EN : Nat) (av bv : Nat → Nat) (aA aB : Option Addr) (cA cB : Nat) (w : World) (HF : Hid (FR = frF la lb av bv (la - 0) 0)) (HN : Hid (EN = enF la lb FR av bv (la - 0) 0))
    (HA : Hid (Chs w aA la (fun i => .int .i32 (av i : Int)))) (HB : Hid (Chs w aB lb (fun i => .int .i32 (bv i : Int)))) (h1 : la ≤ 1048576) (h2 : lb ≤ 1048576) :
    Calls Tryd.prog 14 #[.slice aA la cA, .slice aB lb cB] w fun e w' => ∃ v, e = .returned v ∧ w'.ownsRow w.heap.size 57 3 v 2 (kV [(0, 0, FR), (la - EN, lb - EN, EN)]) ∧ Below w.heap.size w w' := by
  have hf1 := (frF_le (la := la) (lb := lb) (a := av) (b := bv) (la - 0) 0 (by omega) (by omega))
  rw [← HF.out] at hf1
  have hn1 := (enF_le (la := la) (lb := lb) (fr := FR) (a := av) (b := bv) (la - 0) 0 (by omega) (by omega))
  rw [← HN.out] at hn1
  obtain ⟨hf1, hf2⟩ := hf1
  obtain ⟨hn1, hn2⟩ := hn1
  obtain ⟨MO, hMO⟩ : ∃ x, min la lb = x := ⟨_, rfl⟩
  have HMO := Hid.mk' hMO
  have hMA : MO ≤ la := by omega
  have hMB : MO ≤ lb := by omega
  have hFM : FR ≤ MO := by omega
  have em : (if lb < la then (lb : Int) else (la : Int)) = (MO : Int) := by split <;> omega
  clear hMO
  go_enter Tryd.func14, Tryd.ntmps14
  go_wp2
  clear em
  go_loopw [5] (fun i wr => ∃ k : Nat, k ≤ MO ∧ i = .int .i64 (k : Int) ∧ Hid (FR = frF la lb av bv (la - k) k) ∧ Hid (Below w.heap.size w wr)) (fun i _ => la - (intOf i).toNat)
  case atStart => exact ⟨0, by omega, rfl, HF, Below.refl _ _⟩
  case round =>
    obtain ⟨k, hk1, rfl, HK, HW⟩ := hrel
    clear HF
    by_cases hgo : k < MO ∧ av k = bv k
    · obtain ⟨q1, hs⟩ := hgo
      have q1' : (k : Int) < (MO : Int) := by omega
      have q2 : k < la := by omega
      have q3 : k < lb := by omega
      obtain ⟨ga, rfl, ca⟩ := HA.out _ HW.out k q2
      obtain ⟨gb, rfl, cb⟩ := HB.out _ HW.out k q3
      dsimp only at ca cb
      have HK2 : Hid (FR = frF la lb av bv (la - (k + 1)) (k + 1)) := by show _ = _; rw [HK.out, frF_go q2 q3 hs]
      rw [hs] at ca
      clear HK hs
      generalize bv k = eb at *
      go_wp2
      go_quiet (fail)
      go_wp2
      go_roundw
      case rel => exact ⟨k + 1, by omega, by go_num, HK2, below_drewN HW.out _⟩
      case measure => simp [intOf]; omega
    · obtain rfl : FR = k := by
        rw [HK.out, frF_end]
        intro h
        have := HMO.out
        exact hgo ⟨by omega, h.2.2⟩
      clear HK
      have H2 : (¬ FR < MO) ∨ (FR < MO ∧ ¬ av FR = bv FR) := by
        by_cases q1 : FR < MO
        · exact .inr ⟨q1, fun e => hgo ⟨q1, e⟩⟩
        · exact .inl q1
      clear hgo
      obtain ⟨DM, hDM⟩ : ∃ x, MO - FR = x := ⟨_, rfl⟩
      have edm : (MO : Int) - (FR : Int) = (DM : Int) := by omega
      have hDM2 : DM ≤ MO := by omega
      have hnD : EN ≤ DM := by have := HMO.out; omega
      have HDM := Hid.mk' hDM
      clear hDM
      rcases H2 with q1 | ⟨q1, hs⟩
      · have q1' : ¬ (FR : Int) < (MO : Int) := by omega
        go_wp2
        go_quiet (fail)
        go_wp2
        try clear ca cb
        try clear hse
        clear q1 q1'
        go_loopw [6] (fun e wr => ∃ k : Nat, k ≤ DM ∧ e = .int .i64 (k : Int) ∧ Hid (EN = enF la lb FR av bv (la - k) k) ∧ Hid (Below w.heap.size w wr)) (fun e _ => la - (intOf e).toNat)
        case atStart => exact ⟨0, by omega, rfl, HN, below_drewN HW.out _⟩
        case round =>
          obtain ⟨k, hk3, rfl, HK, HW1⟩ := hrel
          clear HN HW
          have hdm := HDM.out
          have hmo := HMO.out
          by_cases hgo : k < DM ∧ av (la - 1 - k) = bv (lb - 1 - k)
          · obtain ⟨r1, hs⟩ := hgo
            have r1' : (k : Int) < (DM : Int) := by omega
            obtain ⟨xa, hxa⟩ : ∃ x, la - 1 - k = x := ⟨_, rfl⟩
            obtain ⟨xb, hxb⟩ : ∃ x, lb - 1 - k = x := ⟨_, rfl⟩
            have exa : (la : Int) - 1 - (k : Int) = (xa : Int) := by omega
            have exb : (lb : Int) - 1 - (k : Int) = (xb : Int) := by omega
            have lxa : xa < la := by omega
            have lxb : xb < lb := by omega
            have HK2 : Hid (EN = enF la lb FR av bv (la - (k + 1)) (k + 1)) := by show _ = _; rw [HK.out, enF_go (by omega) (by omega) hs]
            rw [hxa, hxb] at hs
            obtain ⟨ga, ea, ca⟩ := HA.out _ HW1.out xa lxa
            obtain ⟨gb, eb, cb⟩ := HB.out _ HW1.out xb lxb
            first | (subst ea) | (obtain rfl : ga = _ := by simpa using ea.symm)
            first | (subst eb) | (obtain rfl : gb = _ := by simpa using eb.symm)
            dsimp only at ca cb
            rw [hs] at ca
            clear HK hs hxa hxb hdm hmo
            generalize bv xb = eb at *
            go_wp2
            go_quiet (fail)
            go_wp2
            go_roundw
            case rel => exact ⟨k + 1, by omega, by go_num, HK2, below_drewN HW1.out _⟩
            case measure => simp [intOf]; omega
          · obtain rfl : EN = k := by
              rw [HK.out, enF_end]
              intro h
              exact hgo ⟨by omega, h.2.2⟩
            clear HK
            have H3 : (¬ EN < DM) ∨ (EN < DM ∧ ¬ av (la - 1 - EN) = bv (lb - 1 - EN)) := by
              by_cases q1 : EN < DM
              · exact .inr ⟨q1, fun e => hgo ⟨q1, e⟩⟩
              · exact .inl q1
            clear hgo
            obtain ⟨le, hle⟩ : ∃ x, la - EN = x := ⟨_, rfl⟩
            obtain ⟨me, hme⟩ : ∃ x, lb - EN = x := ⟨_, rfl⟩
            have ele : (la : Int) - (EN : Int) = (le : Int) := by omega
            have eme : (lb : Int) - (EN : Int) = (me : Int) := by omega
            have HLE := Hid.mk' hle
            have HME := Hid.mk' hme
            rcases H3 with r1 | ⟨r1, hs⟩
            · have r1' : ¬ (EN : Int) < (DM : Int) := by omega
              clear hdm hmo hle hme
              go_wp2
              go_quiet (fail)
              clear r1 r1'
              have HWd := Hid.mk' (below_drewN HW1.out nq)
              have HLIT := Hid.mk' (fun u : Array Value => World.ownsRow_lit (base := w.heap.size) (e := 57) (size := 3) (wr.drewN nq) u 2 HWd.out.size (by unfold maxLen; omega))
              generalize wr.drewN nq = W at *
              try clear ca
              try clear cb
              try clear hse
              try clear exa exb
              go_wp2
              go_ret
              rw [HLE.out, HME.out]
              exact ⟨_, rfl, by have := HLIT.out #[.int .i64 0, .int .i64 0, .int .i64 (FR : Int), .int .i64 (le : Int), .int .i64 (me : Int), .int .i64 (EN : Int)] rfl; simpa [kV] using this, HWd.out.alloc HWd.out.size _⟩
            · have r1' : (EN : Int) < (DM : Int) := by omega
              obtain ⟨xa, hxa⟩ : ∃ x, la - 1 - EN = x := ⟨_, rfl⟩
              obtain ⟨xb, hxb⟩ : ∃ x, lb - 1 - EN = x := ⟨_, rfl⟩
              have exa : (la : Int) - 1 - (EN : Int) = (xa : Int) := by omega
              have exb : (lb : Int) - 1 - (EN : Int) = (xb : Int) := by omega
              have lxa : xa < la := by omega
              have lxb : xb < lb := by omega
              rw [hxa, hxb] at hs
              obtain ⟨ga, ea, ca⟩ := HA.out _ HW1.out xa lxa
              obtain ⟨gb, eb, cb⟩ := HB.out _ HW1.out xb lxb
              first | (subst ea) | (obtain rfl : ga = _ := by simpa using ea.symm)
              first | (subst eb) | (obtain rfl : gb = _ := by simpa using eb.symm)
              dsimp only at ca cb
              have hse : (((av xa : Nat) : Int) == ((bv xb : Nat) : Int)) = false := by simp; omega
              clear hs hxa hxb hdm hmo hle hme
              generalize av xa = ea at *
              generalize bv xb = eb at *
              go_wp2
              go_quiet (fail)
              clear r1 r1'
              have HWd := Hid.mk' (below_drewN HW1.out nq)
              have HLIT := Hid.mk' (fun u : Array Value => World.ownsRow_lit (base := w.heap.size) (e := 57) (size := 3) (wr.drewN nq) u 2 HWd.out.size (by unfold maxLen; omega))
              generalize wr.drewN nq = W at *
              try clear ca
              try clear cb
              try clear hse
              try clear exa exb
              go_wp2
              go_ret
              rw [HLE.out, HME.out]
              exact ⟨_, rfl, by have := HLIT.out #[.int .i64 0, .int .i64 0, .int .i64 (FR : Int), .int .i64 (le : Int), .int .i64 (me : Int), .int .i64 (EN : Int)] rfl; simpa [kV] using this, HWd.out.alloc HWd.out.size _⟩
      · have q1' : (FR : Int) < (MO : Int) := by omega
        have q2 : FR < la := by omega
        have q3 : FR < lb := by omega
        obtain ⟨ga, rfl, ca⟩ := HA.out _ HW.out FR q2
        obtain ⟨gb, rfl, cb⟩ := HB.out _ HW.out FR q3
        dsimp only at ca cb
        have hse : (((av FR : Nat) : Int) == ((bv FR : Nat) : Int)) = false := by simp; omega
        clear hs
        generalize av FR = ea at *
        generalize bv FR = eb at *
        go_wp2
        go_quiet (fail)
        go_wp2
        try clear ca cb
        try clear hse
        clear q1 q1'
        go_loopw [6] (fun e wr => ∃ k : Nat, k ≤ DM ∧ e = .int .i64 (k : Int) ∧ Hid (EN = enF la lb FR av bv (la - k) k) ∧ Hid (Below w.heap.size w wr)) (fun e _ => la - (intOf e).toNat)
        case atStart => exact ⟨0, by omega, rfl, HN, below_drewN HW.out _⟩
        case round =>
          obtain ⟨k, hk3, rfl, HK, HW1⟩ := hrel
          clear HN HW
          have hdm := HDM.out
          have hmo := HMO.out
          by_cases hgo : k < DM ∧ av (la - 1 - k) = bv (lb - 1 - k)
          · obtain ⟨r1, hs⟩ := hgo
            have r1' : (k : Int) < (DM : Int) := by omega
            obtain ⟨xa, hxa⟩ : ∃ x, la - 1 - k = x := ⟨_, rfl⟩
            obtain ⟨xb, hxb⟩ : ∃ x, lb - 1 - k = x := ⟨_, rfl⟩
            have exa : (la : Int) - 1 - (k : Int) = (xa : Int) := by omega
            have exb : (lb : Int) - 1 - (k : Int) = (xb : Int) := by omega
            have lxa : xa < la := by omega
            have lxb : xb < lb := by omega
            have HK2 : Hid (EN = enF la lb FR av bv (la - (k + 1)) (k + 1)) := by show _ = _; rw [HK.out, enF_go (by omega) (by omega) hs]
            rw [hxa, hxb] at hs
            obtain ⟨ga, ea, ca⟩ := HA.out _ HW1.out xa lxa
            obtain ⟨gb, eb, cb⟩ := HB.out _ HW1.out xb lxb
            first | (subst ea) | (obtain rfl : ga = _ := by simpa using ea.symm)
            first | (subst eb) | (obtain rfl : gb = _ := by simpa using eb.symm)
            dsimp only at ca cb
            rw [hs] at ca
            clear HK hs hxa hxb hdm hmo
            generalize bv xb = eb at *
            go_wp2
            go_quiet (fail)
            go_wp2
            go_roundw
            case rel => exact ⟨k + 1, by omega, by go_num, HK2, below_drewN HW1.out _⟩
            case measure => simp [intOf]; omega
          · obtain rfl : EN = k := by
              rw [HK.out, enF_end]
              intro h
              exact hgo ⟨by omega, h.2.2⟩
            clear HK
            have H3 : (¬ EN < DM) ∨ (EN < DM ∧ ¬ av (la - 1 - EN) = bv (lb - 1 - EN)) := by
              by_cases q1 : EN < DM
              · exact .inr ⟨q1, fun e => hgo ⟨q1, e⟩⟩
              · exact .inl q1
            clear hgo
            obtain ⟨le, hle⟩ : ∃ x, la - EN = x := ⟨_, rfl⟩
            obtain ⟨me, hme⟩ : ∃ x, lb - EN = x := ⟨_, rfl⟩
            have ele : (la : Int) - (EN : Int) = (le : Int) := by omega
            have eme : (lb : Int) - (EN : Int) = (me : Int) := by omega
            have HLE := Hid.mk' hle
            have HME := Hid.mk' hme
            rcases H3 with r1 | ⟨r1, hs⟩
            · have r1' : ¬ (EN : Int) < (DM : Int) := by omega
              clear hdm hmo hle hme
              go_wp2
              go_quiet (fail)
              clear r1 r1'
              have HWd := Hid.mk' (below_drewN HW1.out nq)
              have HLIT := Hid.mk' (fun u : Array Value => World.ownsRow_lit (base := w.heap.size) (e := 57) (size := 3) (wr.drewN nq) u 2 HWd.out.size (by unfold maxLen; omega))
              generalize wr.drewN nq = W at *
              try clear ca
              try clear cb
              try clear hse
              try clear exa exb
              go_wp2
              go_ret
              rw [HLE.out, HME.out]
              exact ⟨_, rfl, by have := HLIT.out #[.int .i64 0, .int .i64 0, .int .i64 (FR : Int), .int .i64 (le : Int), .int .i64 (me : Int), .int .i64 (EN : Int)] rfl; simpa [kV] using this, HWd.out.alloc HWd.out.size _⟩
            · have r1' : (EN : Int) < (DM : Int) := by omega
              obtain ⟨xa, hxa⟩ : ∃ x, la - 1 - EN = x := ⟨_, rfl⟩
              obtain ⟨xb, hxb⟩ : ∃ x, lb - 1 - EN = x := ⟨_, rfl⟩
              have exa : (la : Int) - 1 - (EN : Int) = (xa : Int) := by omega
              have exb : (lb : Int) - 1 - (EN : Int) = (xb : Int) := by omega
              have lxa : xa < la := by omega
              have lxb : xb < lb := by omega
              rw [hxa, hxb] at hs
              obtain ⟨ga, ea, ca⟩ := HA.out _ HW1.out xa lxa
              obtain ⟨gb, eb, cb⟩ := HB.out _ HW1.out xb lxb
              first | (subst ea) | (obtain rfl : ga = _ := by simpa using ea.symm)
              first | (subst eb) | (obtain rfl : gb = _ := by simpa using eb.symm)
              dsimp only at ca cb
              have hse : (((av xa : Nat) : Int) == ((bv xb : Nat) : Int)) = false := by simp; omega
              clear hs hxa hxb hdm hmo hle hme
              generalize av xa = ea at *
              generalize bv xb = eb at *
              go_wp2
              go_quiet (fail)
              clear r1 r1'
              have HWd := Hid.mk' (below_drewN HW1.out nq)
              have HLIT := Hid.mk' (fun u : Array Value => World.ownsRow_lit (base := w.heap.size) (e := 57) (size := 3) (wr.drewN nq) u 2 HWd.out.size (by unfold maxLen; omega))
              generalize wr.drewN nq = W at *
              try clear ca
              try clear cb
              try clear hse
              try clear exa exb
              go_wp2
              go_ret
              rw [HLE.out, HME.out]
              exact ⟨_, rfl, by have := HLIT.out #[.int .i64 0, .int .i64 0, .int .i64 (FR : Int), .int .i64 (le : Int), .int .i64 (me : Int), .int .i64 (EN : Int)] rfl; simpa [kV] using this, HWd.out.alloc HWd.out.size _⟩
end Go.Proofs.YtefoipjbbfcjhaaDoor
