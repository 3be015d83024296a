import Derived.Test.YtefoipjbbfcjhaaDoorDk
namespace Go.Proofs.YtefoipjbbfcjhaaDoor
open Go.RowKit
set_option linter.unusedVariables false
set_option linter.unusedSimpArgs false

set_option maxRecDepth 100000 in
set_option maxHeartbeats 1000000 in
theorem keep_any (N q : Nat) (w : World) (lv : Value) (l : List Pat) (at' : Nat) (op : Bool) (h : PS w N q lv l at' op) (hat : at' ≤ 10000000) :
    Calls Tryd.prog 19 #[.pointer (some ⟨q, 0, none⟩)] w fun e w' => e = .returned (.tuple #[]) ∧ Below N w w' ∧ PS w' N q lv l (at' + 1) false := by
  have c1 := h.c1
  have f1 := h.fz 1
  have P1 := h.set1 (at' + 1)
  have P2 := Hid.mk' (P1.set2 false)
  have k2 := P1.c2
  have g2 := P1.fz 2
  have BL : Hid (Below N w ((w.setCell ⟨q, 1, none⟩ (.int .i64 ((at' + 1 : Nat) : Int))).setCell ⟨q, 2, none⟩ (.bool false))) := ((Below.refl N w).setCell (p := ⟨q, 1, none⟩) h.bq _).setCell (p := ⟨q, 2, none⟩) h.bq _
  have e1 : ((at' + 1 : Nat) : Int) = (at' : Int) + 1 := by omega
  rw [e1] at k2 g2
  clear h P1
  go_enter Tryd.func19, Tryd.ntmps19
  go_wp2
  refine bodyPost_end (results_none rfl _ _ _) rfl ?_
  rw [← e1]
  exact ⟨rfl, BL.out, P2.out⟩
theorem last_of {l : List Pat} (h : 0 < l.length) : ∃ l0 p, l = l0 ++ [p] := ⟨l.dropLast, l.getLast (List.ne_nil_of_length_pos h), (List.dropLast_concat_getLast _).symm⟩
theorem pV_at {l0 : List Pat} {p : Pat} {j : Nat} (hj : j < 7) : (pV (l0 ++ [p]))[l0.length * 7 + j]? = (patC p.at' p.cnt p.txt)[j]? := by
  rw [pV_app, List.getElem?_append_right (by rw [pV_len]; omega), pV_len]
  have : l0.length * 7 + j - l0.length * 7 = j := by omega
  rw [this]
  simp [pV]
theorem pV_set4 (l0 : List Pat) (p : Pat) (x : Nat) : pV (l0 ++ [⟨p.at', x, p.txt⟩]) = (pV (l0 ++ [p])).set (l0.length * 7 + 4) (.int .i64 (x : Int)) := by
  rw [pV_app, pV_app, List.set_append_right _ _ (by rw [pV_len]; omega), pV_len]
  have : l0.length * 7 + 4 - l0.length * 7 = 4 := by omega
  rw [this]
  simp [pV, patC]
theorem pV_set5 (l0 : List Pat) (p : Pat) (x : ByteArray) : pV (l0 ++ [⟨p.at', p.cnt, x⟩]) = (pV (l0 ++ [p])).set (l0.length * 7 + 5) (.string x) := by
  rw [pV_app, pV_app, List.set_append_right _ _ (by rw [pV_len]; omega), pV_len]
  have : l0.length * 7 + 5 - l0.length * 7 = 5 := by omega
  rw [this]
  simp [pV, patC]
/-- The last patch's cells. -/
theorem PS.last {w : World} {N q : Nat} {lv : Value} {l0 : List Pat} {p : Pat} {at' : Nat} {op : Bool} (h : PS w N q lv (l0 ++ [p]) at' op) : ∃ g cap, lv = .slice (some ⟨g, 0, none⟩) (l0.length + 1) cap ∧ N ≤ g ∧ (∀ j v, j < 7 → (patC p.at' p.cnt p.txt)[j]? = some v → w.cell? ⟨g, l0.length * 7 + j, none⟩ = some v) ∧ ∀ j, w.frozen? ⟨g, j, none⟩ = false := by
  have how := h.own
  have e : (l0 ++ [p]).length = l0.length + 1 := by simp
  rw [e] at how
  rcases how.2 with ⟨_, h0⟩ | ⟨g, cap, cur, rfl, hbg, hg, _⟩
  · omega
  exact ⟨g, cap, rfl, hbg, fun j v hj hv => by rw [how.cellAt _ (by omega), pV_at hj]; exact hv, fun j => frozen_of_row w g j _ _ hg⟩
set_option maxRecDepth 100000 in
set_option maxHeartbeats 1000000 in
theorem away_any (N q : Nat) (w : World) (lv : Value) (l l0 : List Pat) (p : Pat) (at' : Nat) (op : Bool) (h : PS w N q lv l at' op) (hl : l.length ≤ 10000) (hl0 : op = true → 0 < l.length) (ho : opn l at' op = l0 ++ [p]) (hc : p.cnt ≤ 10000000) :
    Calls Tryd.prog 20 #[.pointer (some ⟨q, 0, none⟩)] w fun e w' => e = .returned (.tuple #[]) ∧ Below N w w' ∧ ∃ lv', PS w' N q lv' (l0 ++ [⟨p.at', p.cnt + 1, p.txt⟩]) at' true := by
  obtain ⟨pa, pc, pt⟩ := p
  dsimp only at *
  have HC := Hid.mk' (patch_any N q w lv l at' op h hl hl0)
  rw [ho] at HC
  have hll : l0.length ≤ 10001 := by
    have := congrArg List.length ho
    unfold opn at this
    split at this <;> simp at this <;> omega
  clear h hl0 hl ho
  go_enter Tryd.func20, Tryd.ntmps20
  go_wp2_with fail
  refine HC.out.mono ?_
  rintro e w1 ⟨rfl, b1, lv1, P1⟩
  clear HC
  obtain ⟨g, cap, rfl, hNg, hcell, hfz⟩ := P1.last
  have c0 := P1.c0
  have c4 := hcell 4 (.int .i64 (pc : Int)) (by decide) rfl
  have f4 := hfz (l0.length * 7 + 4)
  have e1 : (((l0 ++ [(⟨pa, pc, pt⟩ : Pat)]).length : Nat) : Int) - 1 = (l0.length : Int) := by simp
  have P2 := Hid.mk' (P1.row (l' := l0 ++ [⟨pa, pc + 1, pt⟩]) (r := l0.length * 7 + 4) (.int .i64 ((pc + 1 : Nat) : Int)) (by simp) (by omega) (pV_set4 l0 ⟨pa, pc, pt⟩ (pc + 1)) (by simp))
  have BL := Hid.mk' (b1.setCell (p := ⟨g, l0.length * 7 + 4, none⟩) hNg (.int .i64 ((pc + 1 : Nat) : Int)))
  rw [e1]
  have e2 : ((pc + 1 : Nat) : Int) = (pc : Int) + 1 := by omega
  rw [e2] at P2 BL
  clear hcell hfz P1 b1 e1 e2
  generalize l0.length = n at *
  go_wp2
  refine bodyPost_end (results_none rfl _ _ _) rfl ?_
  exact ⟨rfl, BL.out, _, P2.out⟩
set_option maxRecDepth 100000 in
set_option maxHeartbeats 1000000 in
theorem in_any (N q : Nat) (w : World) (lv : Value) (l l0 : List Pat) (p : Pat) (at' : Nat) (op : Bool) (s : ByteArray) (h : PS w N q lv l at' op) (hl : l.length ≤ 10000) (hl0 : op = true → 0 < l.length) (ho : opn l at' op = l0 ++ [p]) (hat : at' ≤ 10000000) (hs : p.txt.size + s.size ≤ 100000000) :
    Calls Tryd.prog 21 #[.pointer (some ⟨q, 0, none⟩), .string s] w fun e w' => e = .returned (.tuple #[]) ∧ Below N w w' ∧ ∃ lv', PS w' N q lv' (l0 ++ [⟨p.at', p.cnt, p.txt ++ s⟩]) (at' + 1) true := by
  obtain ⟨pa, pc, pt⟩ := p
  dsimp only at *
  have HC := Hid.mk' (patch_any N q w lv l at' op h hl hl0)
  rw [ho] at HC
  have hll : l0.length ≤ 10001 := by
    have := congrArg List.length ho
    unfold opn at this
    split at this <;> simp at this <;> omega
  clear h hl0 hl ho
  go_enter Tryd.func21, Tryd.ntmps21
  go_wp2_with fail
  refine HC.out.mono ?_
  rintro e w1 ⟨rfl, b1, lv1, P1⟩
  clear HC
  obtain ⟨g, cap, rfl, hNg, hcell, hfz⟩ := P1.last
  have c0 := P1.c0
  have c5 := hcell 5 (.string pt) (by decide) rfl
  have f5 := hfz (l0.length * 7 + 5)
  have e1 : (((l0 ++ [(⟨pa, pc, pt⟩ : Pat)]).length : Nat) : Int) - 1 = (l0.length : Int) := by simp
  have P2 := P1.row (l' := l0 ++ [⟨pa, pc, pt ++ s⟩]) (r := l0.length * 7 + 5) (.string (pt ++ s)) (by simp) (by omega) (pV_set5 l0 ⟨pa, pc, pt⟩ (pt ++ s)) (by simp)
  have c1 := P2.c1
  have f1 := P2.fz 1
  have P3 := Hid.mk' (P2.set1 (at' + 1))
  have BL := Hid.mk' ((b1.setCell (p := ⟨g, l0.length * 7 + 5, none⟩) hNg (.string (pt ++ s))).setCell (p := ⟨q, 1, none⟩) P1.bq (.int .i64 ((at' + 1 : Nat) : Int)))
  rw [e1]
  have e2 : ((at' + 1 : Nat) : Int) = (at' : Int) + 1 := by omega
  rw [e2] at P3 BL
  clear hcell hfz P1 b1 e1 e2 P2
  generalize l0.length = n at *
  go_wp2
  refine bodyPost_end (results_none rfl _ _ _) rfl ?_
  exact ⟨rfl, BL.out, _, P3.out⟩
end Go.Proofs.YtefoipjbbfcjhaaDoor
