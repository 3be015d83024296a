import Derived.Test.YtphpaaajfcbafaaDoorKPi
namespace Go.Proofs.YtphpaaajfcbafaaDoor.K
open Go.RowKit
set_option linter.unusedVariables false
set_option linter.unusedSimpArgs false

variable {T : TypeId} {r cap : Nat} {a : Option Addr} {L : List UInt8} {s : St}
set_option maxRecDepth 100000 in
set_option maxHeartbeats 400000 in
theorem qfail_any (e p : Int) (w : World) (h : RD w T r a cap L s) :
    Calls Tryd.prog 41 #[.pointer (some ⟨r, 0, none⟩), .int .i64 e, .int .i64 p] w fun x w' => x = .returned (.tuple #[]) ∧ On w w' T r a cap L (s.fl e p) := by
  by_cases hb : s.bad = 0
  · by_cases he : e = 0
    · subst he
      rw [St.fl_ok]
      have HR : Hid (On w w T r a cap L s) := h.on
      have c2 := h.c2
      rw [hb] at c2
      clear h
      go_enter Tryd.func41, Tryd.ntmps41
      go_wp2
      go_end0
      exact ⟨rfl, HR.out⟩
    · rw [St.fl_new s e p hb he]
      have HR : Hid (On w (((w.setCell ⟨r, 2, none⟩ (.int .i64 e)).setCell ⟨r, 3, none⟩ (.int .i64 p))) T r a cap L ⟨s.k, e, p⟩) := h.on.set23 e p
      have c2 := h.c2
      rw [hb] at c2
      have f2 := h.fz 2
      have f3 := h.fz 3
      have hlt := h.lt
      have c3 := h.c3
      clear h
      go_enter Tryd.func41, Tryd.ntmps41
      go_wp2
      go_end0
      exact ⟨rfl, HR.out⟩
  · rw [St.fl_bad s e p hb]
    have HR : Hid (On w w T r a cap L s) := h.on
    have c2 := h.c2
    clear h
    go_enter Tryd.func41, Tryd.ntmps41
    go_wp2
    go_end0
    exact ⟨rfl, HR.out⟩
theorem qfail_on (w : World) (hb : s.bad = 0) (e p : Int) (he : e ≠ 0) (wx : World) (h : On w wx T r a cap L s) : Calls Tryd.prog 41 #[.pointer (some ⟨r, 0, none⟩), .int .i64 e, .int .i64 p] wx fun x w' => x = .returned (.tuple #[]) ∧ On w w' T r a cap L ⟨s.k, e, p⟩ := (qfail_any e p wx h.1).mono fun x w' hx => by
  rw [St.fl_new s _ _ hb he] at hx
  exact ⟨hx.1, h.trans hx.2⟩
set_option maxRecDepth 100000 in
set_option maxHeartbeats 400000 in
theorem qat_any (w : World) (h : RD w T r a cap L s) :
    Calls Tryd.prog 19 #[.pointer (some ⟨r, 0, none⟩)] w fun e w' => e = .returned (.int .i64 (s.k : Int)) ∧ w' = w := by
  have c1 := h.c1
  clear h
  go_enter Tryd.func19, Tryd.ntmps19
  go_wp2
  go_ret
  exact ⟨rfl, rfl⟩
set_option maxRecDepth 100000 in
set_option maxHeartbeats 400000 in
theorem qfault_any (w : World) (h : RD w T r a cap L s) :
    Calls Tryd.prog 21 #[.pointer (some ⟨r, 0, none⟩)] w fun e w' => e = .returned (.tuple #[.int .i64 s.bad, .int .i64 s.wh]) ∧ ∃ m, w' = w.drewN m := by
  have c2 := h.c2
  have c3 := h.c3
  clear h
  go_enter Tryd.func21, Tryd.ntmps21
  go_wp2
  go_quiet (fail)
  go_wp2
  go_ret2
  exact ⟨rfl, _, rfl⟩
/-- What ends leaves. -/
def sEnds (L : List UInt8) (n : Nat) (s : St) : St := if s.bad = 0 then (if s.k + n ≤ L.length then s else ⟨s.k, 20, L.length⟩) else s
theorem sEnds_ok {n : Nat} (hb : s.bad = 0) (hk : s.k + n ≤ L.length) : sEnds L n s = s := by unfold sEnds; rw [if_pos hb, if_pos hk]
theorem sEnds_no {n : Nat} (hb : s.bad = 0) (hk : ¬ s.k + n ≤ L.length) : sEnds L n s = ⟨s.k, 20, L.length⟩ := by unfold sEnds; rw [if_pos hb, if_neg hk]
theorem sEnds_bad {n : Nat} (hb : ¬ s.bad = 0) : sEnds L n s = s := by unfold sEnds; rw [if_neg hb]
theorem rd_cell {w : World} (h : RD w T r a cap L s) : ∃ b off, (0 < L.length → a = some ⟨b, off, none⟩ ∧ b ≠ r) ∧ ∀ j, j < L.length → w.cell? ⟨b, off + j, none⟩ = some (.int .u8 (at8 L j)) := by
  rcases h.byt with e | ⟨b, off, rfl, hc⟩
  · refine ⟨0, 0, fun h0 => ?_, fun j hj => ?_⟩
    · rw [e] at h0; simp at h0
    · rw [e] at hj; simp at hj
  · exact ⟨b, off, fun _ => ⟨rfl, (h.plain _ rfl).2⟩, hc⟩
end Go.Proofs.YtphpaaajfcbafaaDoor.K
