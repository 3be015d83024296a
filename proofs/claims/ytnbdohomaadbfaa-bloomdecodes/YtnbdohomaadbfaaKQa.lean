import Derived.Test.YtnbdohomaadbfaaKPr
namespace Go.Proofs.Ytnbdohomaadbfaa.K
open Go.RowKit
set_option linter.unusedVariables false
set_option linter.unusedSimpArgs false

variable {T : TypeId} {r cap : Nat} {a : Option Addr} {L : List UInt8} {s : St}
set_option maxRecDepth 100000 in
set_option maxHeartbeats 400000 in
theorem qfail_any (e p : Int) (w : World) (h : RD w T r a cap L s) :
    Calls Try.prog 68 #[.pointer (some ⟨r, 0, none⟩), .int .i64 e, .int .i64 p] w fun x w' => x = .returned (.tuple #[]) ∧ On w w' T r a cap L (s.fl e p) := by
  by_cases hb : s.bad = 0
  · by_cases he : e = 0
    · subst he
      rw [St.fl_ok]
      have HR : Hid (On w w T r a cap L s) := h.on
      have c2 := h.c2
      rw [hb] at c2
      clear h
      go_enter Try.func68, Try.ntmps68
      go_wp2
      go_end0
      exact ⟨rfl, HR.out⟩
    · rw [St.fl_new s e p hb he]
      have HR : Hid (On w (((w.setCell ⟨r, 2, none⟩ (.int .i64 e)).setCell ⟨r, 3, none⟩ (.int .i64 p))) T r a cap L ⟨s.k, e, p⟩) := h.on.set23 e p
      have c2 := h.c2
      rw [hb] at c2
      have f2 := h.fz 2
      have f3 := h.fz 3
      have hlt := h.lt
      have c3 := h.c3
      clear h
      go_enter Try.func68, Try.ntmps68
      go_wp2
      go_end0
      exact ⟨rfl, HR.out⟩
  · rw [St.fl_bad s e p hb]
    have HR : Hid (On w w T r a cap L s) := h.on
    have c2 := h.c2
    clear h
    go_enter Try.func68, Try.ntmps68
    go_wp2
    go_end0
    exact ⟨rfl, HR.out⟩
theorem qfail_on (w : World) (hb : s.bad = 0) (e p : Int) (he : e ≠ 0) (wx : World) (h : On w wx T r a cap L s) : Calls Try.prog 68 #[.pointer (some ⟨r, 0, none⟩), .int .i64 e, .int .i64 p] wx fun x w' => x = .returned (.tuple #[]) ∧ On w w' T r a cap L ⟨s.k, e, p⟩ := (qfail_any e p wx h.1).mono fun x w' hx => by
  rw [St.fl_new s _ _ hb he] at hx
  exact ⟨hx.1, h.trans hx.2⟩
set_option maxRecDepth 100000 in
set_option maxHeartbeats 400000 in
theorem qat_any (w : World) (h : RD w T r a cap L s) :
    Calls Try.prog 66 #[.pointer (some ⟨r, 0, none⟩)] w fun e w' => e = .returned (.int .i64 (s.k : Int)) ∧ w' = w := by
  have c1 := h.c1
  clear h
  go_enter Try.func66, Try.ntmps66
  go_wp2
  go_ret
  exact ⟨rfl, rfl⟩
set_option maxRecDepth 100000 in
set_option maxHeartbeats 400000 in
theorem qfault_any (w : World) (h : RD w T r a cap L s) :
    Calls Try.prog 117 #[.pointer (some ⟨r, 0, none⟩)] w fun e w' => e = .returned (.tuple #[.int .i64 s.bad, .int .i64 s.wh]) ∧ ∃ m, w' = w.drewN m := by
  have c2 := h.c2
  have c3 := h.c3
  clear h
  go_enter Try.func117, Try.ntmps117
  go_wp2
  go_quiet (fail)
  go_wp2
  go_ret2
  exact ⟨rfl, _, rfl⟩
/-- What ends leaves. -/
def sEnds (L : List UInt8) (n : Nat) (s : St) : St := if s.bad = 0 then (if s.k + n ≤ L.length then s else ⟨s.k, 20, L.length⟩) else s
set_option maxRecDepth 100000 in
set_option maxHeartbeats 400000 in
theorem qends_any (n : Nat) (hn : n < 1000) (w : World) (h : RD w T r a cap L s) :
    Calls Try.prog 115 #[.pointer (some ⟨r, 0, none⟩), .int .i64 (n : Int)] w fun e w' => e = .returned (.bool (decide ((sEnds L n s).bad ≠ 0))) ∧ On w w' T r a cap L (sEnds L n s) := by
  by_cases hb : s.bad = 0
  · have HK := Hid.mk' (qfail_on (a := a) (cap := cap) (L := L) (T := T) (r := r) w hb 20 (L.length : Int) (by decide))
    have HR := Hid.mk' h.on
    have c0 := h.c0
    have c1 := h.c1
    have c2 := h.c2
    have hk := h.at_le
    have hf := h.few
    rw [hb] at c2
    clear h
    by_cases hk2 : s.k + n ≤ L.length
    · have e0 : sEnds L n s = s := by unfold sEnds; rw [if_pos hb, if_pos hk2]
      rw [e0, hb]
      have hlt : ¬ (L.length : Int) - (s.k : Int) < (n : Int) := by omega
      go_enter Try.func115, Try.ntmps115
      go_wp2
      try (go_quiet (fail); go_wp2)
      go_ret
      exact ⟨rfl, by first | exact HR.out | exact HR.out.drew _⟩
    · have e0 : sEnds L n s = ⟨s.k, 20, L.length⟩ := by unfold sEnds; rw [if_pos hb, if_neg hk2]
      rw [e0]
      have hlt : (L.length : Int) - (s.k : Int) < (n : Int) := by omega
      go_enter Try.func115, Try.ntmps115
      go_wp2
      go_quiet (fail)
      go_wp2_with fail
      refine (HK.out _ (HR.out.drew _)).mono ?_
      rintro e w2 ⟨rfl, ho⟩
      have HO := Hid.mk' ho
      have c2' := ho.1.c2
      clear ho
      go_wp2
      go_ret
      exact ⟨rfl, HO.out⟩
  · have e0 : sEnds L n s = s := by unfold sEnds; rw [if_neg hb]
    rw [e0]
    have HR := Hid.mk' h.on
    have c2 := h.c2
    clear h
    go_enter Try.func115, Try.ntmps115
    go_wp2
    try (go_quiet (fail); go_wp2)
    go_ret
    exact ⟨ret_bool (by simp [hb]), by first | exact HR.out | exact HR.out.drew _⟩

theorem sEnds_ok {n : Nat} (hb : s.bad = 0) (hk : s.k + n ≤ L.length) : sEnds L n s = s := by unfold sEnds; rw [if_pos hb, if_pos hk]
theorem sEnds_no {n : Nat} (hb : s.bad = 0) (hk : ¬ s.k + n ≤ L.length) : sEnds L n s = ⟨s.k, 20, L.length⟩ := by unfold sEnds; rw [if_pos hb, if_neg hk]
theorem sEnds_bad {n : Nat} (hb : ¬ s.bad = 0) : sEnds L n s = s := by unfold sEnds; rw [if_neg hb]
theorem qends_ok (n : Nat) (hn : n < 1000) (w : World) (h : RD w T r a cap L s) (hb : s.bad = 0) (hk : s.k + n ≤ L.length) :
    Calls Try.prog 115 #[.pointer (some ⟨r, 0, none⟩), .int .i64 (n : Int)] w fun e w' => e = .returned (.bool false) ∧ On w w' T r a cap L s := by
  have := qends_any n hn w h
  rw [sEnds_ok hb hk, hb] at this
  exact this
theorem qends_no (n : Nat) (hn : n < 1000) (w : World) (h : RD w T r a cap L s) (hb : s.bad = 0) (hk : ¬ s.k + n ≤ L.length) :
    Calls Try.prog 115 #[.pointer (some ⟨r, 0, none⟩), .int .i64 (n : Int)] w fun e w' => e = .returned (.bool true) ∧ On w w' T r a cap L ⟨s.k, 20, L.length⟩ := by
  have := qends_any n hn w h
  rw [sEnds_no hb hk] at this
  exact this
theorem qends_bad (n : Nat) (hn : n < 1000) (w : World) (h : RD w T r a cap L s) (hb : ¬ s.bad = 0) :
    Calls Try.prog 115 #[.pointer (some ⟨r, 0, none⟩), .int .i64 (n : Int)] w fun e w' => e = .returned (.bool true) ∧ On w w' T r a cap L s := by
  have := qends_any n hn w h
  rw [sEnds_bad hb, show decide (s.bad ≠ 0) = true by simp [hb]] at this
  exact this
theorem rd_cell {w : World} (h : RD w T r a cap L s) : ∃ b off, (0 < L.length → a = some ⟨b, off, none⟩ ∧ b ≠ r) ∧ ∀ j, j < L.length → w.cell? ⟨b, off + j, none⟩ = some (.int .u8 (at8 L j)) := by
  rcases h.byt with e | ⟨b, off, rfl, hc⟩
  · refine ⟨0, 0, fun h0 => ?_, fun j hj => ?_⟩
    · rw [e] at h0; simp at h0
    · rw [e] at hj; simp at hj
  · exact ⟨b, off, fun _ => ⟨rfl, (h.plain _ rfl).2⟩, hc⟩
set_option maxRecDepth 100000 in
set_option maxHeartbeats 1000000 in
theorem qbyte_any (w : World) (h : RD w T r a cap L s) :
    Calls Try.prog 69 #[.pointer (some ⟨r, 0, none⟩)] w fun e w' => e = .returned (.int .u8 (rByte L s).1) ∧ On w w' T r a cap L (rByte L s).2 := by
  by_cases hb : s.bad = 0
  · by_cases hk : s.k + 1 ≤ L.length
    · have e0 : rByte L s = (at8 L s.k, ⟨s.k + 1, s.bad, s.wh⟩) := by unfold rByte; rw [if_pos hb, if_pos hk]
      rw [e0]
      clear e0
      have HE := Hid.mk' (qends_ok 1 (by decide) w h hb hk)
      obtain ⟨b, off, ea, hc⟩ := rd_cell h
      obtain ⟨rfl, hbr⟩ := ea (by omega)
      have cb0 := hc s.k (by omega)
      have hf := h.few
      clear h hc ea
      go_enter Try.func69, Try.ntmps69
      go_wp2_with fail
      refine HE.out.mono ?_
      rintro e w1 ⟨rfl, ho⟩
      have c0 := ho.1.c0
      have c1 := ho.1.c1
      have f1 := ho.1.fz 1
      have HO := Hid.mk' (ho.set1 (s.k + 1) ((s.k : Int) + 1) (by omega) hk)
      go_wp2
      have d0 := HO.out.1.c0
      have d1 : (w1.setCell ⟨r, 1, none⟩ (.int .i64 ((s.k : Int) + 1))).cell? ⟨r, 1, none⟩ = some (.int .i64 ((s.k : Int) + 1)) := HO.out.1.c1
      have d2 := HO.out.2.cell (p := ⟨b, off + s.k, none⟩) hbr cb0
      clear ho cb0
      generalize w1.setCell ⟨r, 1, none⟩ (.int .i64 ((s.k : Int) + 1)) = W at *
      go_quiet (fail)
      go_wp2
      go_ret
      exact ⟨rfl, HO.out.drew _⟩
    · have e0 : rByte L s = (0, ⟨s.k, 20, L.length⟩) := by unfold rByte; rw [if_pos hb, if_neg hk]
      rw [e0]
      clear e0
      have HE := Hid.mk' (qends_no 1 (by decide) w h hb hk)
      clear h
      go_enter Try.func69, Try.ntmps69
      go_wp2_with fail
      refine HE.out.mono ?_
      rintro e w1 ⟨rfl, ho⟩
      have HO := Hid.mk' ho
      clear ho
      go_wp2
      go_ret
      exact ⟨rfl, HO.out⟩
  · have e0 : rByte L s = (0, s) := by unfold rByte; rw [if_neg hb]
    rw [e0]
    have HE := Hid.mk' (qends_bad 1 (by decide) w h hb)
    clear h e0
    go_enter Try.func69, Try.ntmps69
    go_wp2_with fail
    refine HE.out.mono ?_
    rintro e w1 ⟨rfl, ho⟩
    have HO := Hid.mk' ho
    clear ho
    go_wp2
    go_ret
    exact ⟨rfl, HO.out⟩

set_option maxRecDepth 100000 in
set_option maxHeartbeats 400000 in
theorem qdone_any (w : World) (h : RD w T r a cap L s) :
    Calls Try.prog 71 #[.pointer (some ⟨r, 0, none⟩)] w fun e w' => e = .returned (.tuple #[.int .i64 (if s.bad = 0 ∧ s.k < L.length then 22 else s.bad), .int .i64 (if s.bad = 0 ∧ s.k < L.length then (s.k : Int) else s.wh)]) ∧ On w w' T r a cap L s := by
  have HF := Hid.mk' (fun (wx : World) (hx : On w wx T r a cap L s) => qfault_any wx hx.1)
  have HR := Hid.mk' h.on
  have c0 := h.c0
  have c1 := h.c1
  have c2 := h.c2
  have hk := h.at_le
  clear h
  by_cases hb : s.bad = 0
  · by_cases hl : s.k < L.length
    · rw [if_pos ⟨hb, hl⟩, if_pos ⟨hb, hl⟩]
      have hl' : (s.k : Int) < (L.length : Int) := by omega
      rw [hb] at c2
      go_enter Try.func71, Try.ntmps71
      go_wp2
      go_quiet (fail)
      have HON2 := Hid.mk' (HR.out.drew nq)
      generalize w.drewN nq = W at *
      have d1 := HON2.out.1.c1
      go_wp2
      try (go_quiet (fail); go_wp2)
      go_ret2
      exact ⟨rfl, by first | exact HON2.out | exact HON2.out.drew _⟩
    · rw [if_neg (fun h => hl h.2), if_neg (fun h => hl h.2)]
      have hl' : ¬ (s.k : Int) < (L.length : Int) := by omega
      rw [hb] at c2
      go_enter Try.func71, Try.ntmps71
      go_wp2
      go_quiet (fail)
      go_wp2_with fail
      refine (HF.out _ (HR.out.drew _)).mono ?_
      rintro e w1 ⟨rfl, m, rfl⟩
      go_wp2
      go_ret2
      exact ⟨by first | rfl | (rw [hb]; rfl) | rw [hb], HR.out.drew _⟩
  · rw [if_neg (fun h => hb h.1), if_neg (fun h => hb h.1)]
    go_enter Try.func71, Try.ntmps71
    go_wp2
    go_quiet (fail)
    go_wp2_with fail
    refine (HF.out _ (HR.out.drew _)).mono ?_
    rintro e w1 ⟨rfl, m, rfl⟩
    go_wp2
    go_ret2
    exact ⟨by first | rfl | (rw [hb]; rfl) | rw [hb], HR.out.drew _⟩
end Go.Proofs.Ytnbdohomaadbfaa.K
