import Derived.Test.YtdajeabhhkgibaaKSl
namespace Go.Proofs.Ytdajeabhhkgibaa.K
open Go.RowKit
set_option linter.unusedVariables false
set_option linter.unusedSimpArgs false

variable {T : TypeId} {r cap : Nat} {a : Option Addr} {L : List UInt8} {s : St}

set_option maxRecDepth 100000 in
set_option maxHeartbeats 400000 in
theorem cat_any (w : World) (h : RD w T r a cap L s) :
    Calls Try.prog 106 #[.pointer (some ⟨r, 0, none⟩)] w fun e w' => e = .returned (.int .i64 (s.k : Int)) ∧ w' = w := by
  have c1 := h.c1
  clear h
  go_enter Try.func106, Try.ntmps106
  go_wp2
  go_ret
  exact ⟨rfl, rfl⟩
set_option maxRecDepth 100000 in
set_option maxHeartbeats 400000 in
theorem cleft_any (w : World) (h : RD w T r a cap L s) :
    Calls Try.prog 122 #[.pointer (some ⟨r, 0, none⟩)] w fun e w' => e = .returned (.int .i64 ((L.length : Int) - (s.k : Int))) ∧ ∃ m, w' = w.drewN m := by
  have c0 := h.c0
  have c1 := h.c1
  have h1 := h.at_le
  have h2 := h.few
  clear h
  go_enter Try.func122, Try.ntmps122
  go_wp2
  go_quiet (fail)
  go_wp2
  go_ret
  exact ⟨rfl, _, rfl⟩
set_option maxRecDepth 100000 in
set_option maxHeartbeats 400000 in
theorem keep_any (e p : Int) (w : World) (h : RD w T r a cap L s) :
    Calls Try.prog 109 #[.pointer (some ⟨r, 0, none⟩), .int .i64 e, .int .i64 p] w fun x w' => x = .returned (.bool (decide ((s.fl e p).bad = 0))) ∧ On w w' T r a cap L (s.fl e p) := by
  by_cases hb : s.bad = 0
  · by_cases he : e = 0
    · subst he
      rw [St.fl_ok, hb]
      have HR : Hid (On w w T r a cap L s) := h.on
      have c2 := h.c2
      rw [hb] at c2
      clear h
      go_enter Try.func109, Try.ntmps109
      go_wp2
      go_ret
      exact ⟨rfl, HR.out⟩
    · rw [St.fl_new s e p hb he]
      have HR : Hid (On w (((w.setCell ⟨r, 2, none⟩ (.int .i64 e)).setCell ⟨r, 3, none⟩ (.int .i64 p))) T r a cap L ⟨s.k, e, p⟩) := h.on.set23 e p
      have c2 := h.c2
      rw [hb] at c2
      have f2 := h.fz 2
      have f3 := h.fz 3
      have hlt := h.lt
      have c3 := h.c3
      clear h
      go_enter Try.func109, Try.ntmps109
      go_wp2
      go_ret
      exact ⟨by simp [he], HR.out⟩
  · rw [St.fl_bad s e p hb]
    have HR : Hid (On w w T r a cap L s) := h.on
    have c2 := h.c2
    clear h
    go_enter Try.func109, Try.ntmps109
    go_wp2
    go_ret
    exact ⟨by simp [hb], HR.out⟩
set_option maxRecDepth 100000 in
set_option maxHeartbeats 400000 in
theorem stopped_any (w : World) (h : RD w T r a cap L s) :
    Calls Try.prog 107 #[.pointer (some ⟨r, 0, none⟩)] w fun e w' => e = .returned (.bool (decide (s.bad ≠ 0))) ∧ w' = w := by
  have c2 := h.c2
  clear h
  go_enter Try.func107, Try.ntmps107
  go_wp2
  go_ret
  refine ⟨?_, rfl⟩
  by_cases hb : s.bad = 0 <;> simp [hb]
set_option maxRecDepth 100000 in
set_option maxHeartbeats 400000 in
theorem rat_any (w : World) (h : RD w T r a cap L s) :
    Calls Try.prog 58 #[.pointer (some ⟨r, 0, none⟩)] w fun e w' => e = .returned (.int .i64 (s.k : Int)) ∧ w' = w := by
  have H : Hid (Calls Try.prog 106 #[.pointer (some ⟨r, 0, none⟩)] w fun e w' => e = .returned (.int .i64 (s.k : Int)) ∧ w' = w) := cat_any w h
  clear h
  go_enter Try.func58, Try.ntmps58
  go_wp2_with fail
  refine H.out.mono ?_
  rintro e w1 ⟨rfl, hw1⟩
  subst hw1
  go_wp2
  go_ret
  exact ⟨rfl, rfl⟩
set_option maxRecDepth 100000 in
set_option maxHeartbeats 400000 in
theorem rleft_any (w : World) (h : RD w T r a cap L s) :
    Calls Try.prog 113 #[.pointer (some ⟨r, 0, none⟩)] w fun e w' => e = .returned (.int .i64 ((L.length : Int) - (s.k : Int))) ∧ ∃ m, w' = w.drewN m := by
  have H : Hid (Calls Try.prog 122 #[.pointer (some ⟨r, 0, none⟩)] w fun e w' => e = .returned (.int .i64 ((L.length : Int) - (s.k : Int))) ∧ ∃ m, w' = w.drewN m) := cleft_any w h
  clear h
  go_enter Try.func113, Try.ntmps113
  go_wp2_with fail
  refine H.out.mono ?_
  rintro e w1 ⟨rfl, m, rfl⟩
  go_wp2
  go_ret
  exact ⟨rfl, _, rfl⟩
set_option maxRecDepth 100000 in
set_option maxHeartbeats 400000 in
theorem fault_any (w : World) (h : RD w T r a cap L s) :
    Calls Try.prog 112 #[.pointer (some ⟨r, 0, none⟩)] w fun e w' => e = .returned (.tuple #[.int .i64 s.bad, .int .i64 s.wh]) ∧ ∃ m, w' = w.drewN m := by
  have c2 := h.c2
  have c3 := h.c3
  clear h
  go_enter Try.func112, Try.ntmps112
  go_wp2
  go_quiet (fail)
  go_wp2
  go_ret2
  exact ⟨rfl, _, rfl⟩
set_option maxRecDepth 100000 in
set_option maxHeartbeats 400000 in
theorem rfail_any (e p : Int) (w : World) (h : RD w T r a cap L s) :
    Calls Try.prog 60 #[.pointer (some ⟨r, 0, none⟩), .int .i64 e, .int .i64 p] w fun x w' => x = .returned (.tuple #[]) ∧ On w w' T r a cap L (s.fl e p) := by
  have H : Hid (Calls Try.prog 109 #[.pointer (some ⟨r, 0, none⟩), .int .i64 e, .int .i64 p] w fun x w' => x = .returned (.bool (decide ((s.fl e p).bad = 0))) ∧ On w w' T r a cap L (s.fl e p)) := keep_any e p w h
  clear h
  go_enter Try.func60, Try.ntmps60
  go_wp2_with fail
  refine H.out.mono ?_
  rintro x w1 ⟨rfl, ho⟩
  have HO : Hid (On w w1 T r a cap L (s.fl e p)) := ho
  clear ho
  go_wp2
  go_end0
  exact ⟨rfl, HO.out⟩
/-- What Done tells. -/
def doneE (L : List UInt8) (s : St) : Int := if s.bad = 0 then (if s.k < L.length then 22 else 0) else s.bad
def doneP (L : List UInt8) (s : St) : Int := if s.bad = 0 then (if s.k < L.length then (s.k : Int) else 0) else s.wh
set_option maxRecDepth 100000 in
set_option maxHeartbeats 400000 in
theorem rdone_any (w : World) (h : RD w T r a cap L s) :
    Calls Try.prog 63 #[.pointer (some ⟨r, 0, none⟩)] w fun e w' => e = .returned (.tuple #[.int .i64 (doneE L s), .int .i64 (doneP L s)]) ∧ ∃ m, w' = w.drewN m := by
  have HF : Hid (Calls Try.prog 112 #[.pointer (some ⟨r, 0, none⟩)] w fun e w' => e = .returned (.tuple #[.int .i64 s.bad, .int .i64 s.wh]) ∧ ∃ m, w' = w.drewN m) := fault_any w h
  have HL : Hid (∀ m, Calls Try.prog 113 #[.pointer (some ⟨r, 0, none⟩)] (w.drewN m) fun e w' => e = .returned (.int .i64 ((L.length : Int) - (s.k : Int))) ∧ ∃ m', w' = w.drewN m') := fun m => (rleft_any (w.drewN m) (h.drew m)).mono fun e w' ⟨h1, m', h2⟩ => ⟨h1, m + m', by rw [h2, World.drewN_drewN]⟩
  have HA : Hid (∀ m, Calls Try.prog 58 #[.pointer (some ⟨r, 0, none⟩)] (w.drewN m) fun e w' => e = .returned (.int .i64 (s.k : Int)) ∧ w' = w.drewN m) := fun m => rat_any (w.drewN m) (h.drew m)
  have hk := h.at_le
  clear h
  by_cases hb : s.bad = 0
  · rw [hb] at HF
    by_cases hl : s.k < L.length
    · have e1 : doneE L s = 22 := by simp [doneE, hb, hl]
      have e2 : doneP L s = (s.k : Int) := by simp [doneP, hb, hl]
      rw [e1, e2]
      have hpos : (0 : Int) < (L.length : Int) - (s.k : Int) := by omega
      go_enter Try.func63, Try.ntmps63
      go_wp2_with fail
      refine HF.out.mono ?_
      rintro e w1 ⟨rfl, m, rfl⟩
      go_wp2_with fail
      refine (HL.out m).mono ?_
      rintro e w2 ⟨rfl, m2, rfl⟩
      go_wp2_with fail
      refine (HA.out m2).mono ?_
      rintro e w3 ⟨rfl, hw3⟩
      subst hw3
      go_wp2
      go_ret2
      exact ⟨rfl, _, rfl⟩
    · have e1 : doneE L s = 0 := by simp [doneE, hb, hl]
      have e2 : doneP L s = 0 := by simp [doneP, hb, hl]
      rw [e1, e2]
      have hpos : ¬ (0 : Int) < (L.length : Int) - (s.k : Int) := by omega
      go_enter Try.func63, Try.ntmps63
      go_wp2_with fail
      refine HF.out.mono ?_
      rintro e w1 ⟨rfl, m, rfl⟩
      go_wp2_with fail
      refine (HL.out m).mono ?_
      rintro e w2 ⟨rfl, m2, rfl⟩
      go_wp2
      go_ret2
      exact ⟨rfl, _, rfl⟩
  · have e1 : doneE L s = s.bad := by simp [doneE, hb]
    have e2 : doneP L s = s.wh := by simp [doneP, hb]
    rw [e1, e2]
    go_enter Try.func63, Try.ntmps63
    go_wp2_with fail
    refine HF.out.mono ?_
    rintro e w1 ⟨rfl, m, rfl⟩
    go_wp2
    go_ret2
    exact ⟨rfl, _, rfl⟩
set_option maxRecDepth 100000 in
set_option maxHeartbeats 400000 in
/-- next, where there are enough. -/
theorem next_ok (n : Nat) (w : World) (h : RD w T r a cap L s) (hn : s.k + n ≤ L.length) :
    Calls Try.prog 110 #[.pointer (some ⟨r, 0, none⟩), .int .i64 (n : Int)] w fun e w' => e = .returned (.tuple #[.slice (from23 a cap s.k) n (cap - s.k), .bool true]) ∧ ∃ m, w' = w.drewN m := by
  have H2 : Hid (Calls Try.prog 122 #[.pointer (some ⟨r, 0, none⟩)] w fun e w' => e = .returned (.int .i64 ((L.length : Int) - (s.k : Int))) ∧ ∃ m, w' = w.drewN m) := cleft_any w h
  have hr := h.room
  have s1 := sl_mid a L.length cap s.k (s.k + n) (s.k : Int) ((s.k : Int) + (n : Int)) rfl (by omega) (by omega) (by omega)
  have s2 := sl_mid' a L.length cap s.k (s.k + n) (s.k : Int) ((s.k : Int) + (n : Int)) rfl (by omega) (by omega) (by omega)
  rw [Nat.add_sub_cancel_left] at s1 s2
  have c0 := h.c0
  have c1 := h.c1
  have hf := h.few
  have hlt : ¬ (L.length : Int) - (s.k : Int) < (n : Int) := by omega
  clear h
  generalize cap - s.k = c4 at *
  generalize from23 a cap s.k = a4 at *
  go_enter Try.func110, Try.ntmps110
  go_wp2_with fail
  refine H2.out.mono ?_
  rintro e w1 ⟨rfl, m, rfl⟩
  go_wp2
  go_quiet (fail)
  go_wp2
  go_ret2
  exact ⟨rfl, _, by first | rfl | exact World.drewN_drewN ..⟩
set_option maxRecDepth 100000 in
set_option maxHeartbeats 400000 in
/-- next, where there are too few. -/
theorem next_no (n : Nat) (w : World) (h : RD w T r a cap L s) (hb : s.bad = 0) (hn : ¬ s.k + n ≤ L.length) (hn2 : n < 1000) :
    Calls Try.prog 110 #[.pointer (some ⟨r, 0, none⟩), .int .i64 (n : Int)] w fun e w' => e = .returned (.tuple #[.slice none 0 0, .bool false]) ∧ On w w' T r a cap L ⟨s.k, 20, L.length⟩ := by
  have H2 : Hid (Calls Try.prog 122 #[.pointer (some ⟨r, 0, none⟩)] w fun e w' => e = .returned (.int .i64 ((L.length : Int) - (s.k : Int))) ∧ ∃ m, w' = w.drewN m) := cleft_any w h
  have e0 : s.fl 20 (L.length : Int) = ⟨s.k, 20, L.length⟩ := St.fl_new s _ _ hb (by decide)
  have HK : Hid (∀ m, Calls Try.prog 109 #[.pointer (some ⟨r, 0, none⟩), .int .i64 20, .int .i64 (L.length : Int)] (w.drewN m) fun x w' => x = .returned (.bool false) ∧ On w w' T r a cap L ⟨s.k, 20, L.length⟩) := fun m => (keep_any 20 (L.length : Int) (w.drewN m) (h.drew m)).mono fun x w' hx => by
    rw [e0] at hx
    exact ⟨hx.1, hx.2.1, (Fr.drew r w m).trans hx.2.2⟩
  have c0 := h.c0
  have c1 := h.c1
  have hk := h.at_le
  have hf := h.few
  have hlt : (L.length : Int) - (s.k : Int) < (n : Int) := by omega
  clear h
  go_enter Try.func110, Try.ntmps110
  go_wp2_with fail
  refine H2.out.mono ?_
  rintro e w1 ⟨rfl, m, rfl⟩
  go_wp2_with fail
  refine (HK.out m).mono ?_
  rintro e w2 ⟨rfl, ho⟩
  have HO : Hid (On w w2 T r a cap L ⟨s.k, 20, L.length⟩) := ho
  clear ho
  go_wp2
  go_ret2
  exact ⟨rfl, HO.out⟩
end Go.Proofs.Ytdajeabhhkgibaa.K
