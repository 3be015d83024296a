import Derived.Test.YthffcdahjcpdfaaGreatDoorGYa
namespace Go.Proofs.YthffcdahjcpdfaaGreatDoor
open Go.RowKit
set_option linter.unusedVariables false
set_option linter.unusedSimpArgs false

section
variable {w : World}
theorem part_one {t : TypeId} {xs : Array Value} {off : Nat} {v : Value} (hu : (isAgg t).run Tryz.prog w = .ok false w) (e : xs[off]? = some v) : (Go.part t xs off).run Tryz.prog w = .ok v w := by
  simp only [Go.part, Sem.run_bind, hu, Result.andThen_ok, Bool.false_eq_true, if_false, e, Sem.run_pure]
/-- One field. -/
theorem eqF {d : Nat} {xs ys : Array Value} {f : Field} {fs : List Field} {a b : Value} {r r' : Bool} (hn : f.name ≠ "_") (h1 : (Go.part f.type xs f.offset).run Tryz.prog w = .ok a w) (h2 : (Go.part f.type ys f.offset).run Tryz.prog w = .ok b w)
    (h3 : (Op.equalIn d f.type a b).run Tryz.prog w = .ok r w) (h4 : (Op.eqFields d xs ys fs).run Tryz.prog w = .ok r' w) : (Op.eqFields d xs ys (f :: fs)).run Tryz.prog w = .ok (r && r') w := by
  unfold Op.eqFields
  rw [if_pos hn]
  simp only [Sem.run_bind, h1, h2, h3, Result.andThen_ok]
  cases r with
  | false => simp
  | true => simp [h4]
end
theorem agK (w : World) : (isAgg 52).run Tryz.prog w = .ok false w := by simp [isAgg, run_underlying Tryz.underlying52]
theorem agS (w : World) : (isAgg 9).run Tryz.prog w = .ok false w := by simp [isAgg, run_underlying Tryz.underlying9]
theorem agN (w : World) : (isAgg 3).run Tryz.prog w = .ok false w := by simp [isAgg, run_underlying Tryz.underlying3]
theorem flSt : (Tryz.prog.fieldsOf 54).toList = [⟨"Kind", 52, 0, false, "", "", 0⟩, ⟨"Key", 9, 1, false, "", "", 8⟩, ⟨"N", 3, 2, false, "", "", 24⟩] := by simp [Program.fieldsOf, Tryz.underlying54]
set_option maxRecDepth 100000 in
theorem eqSt (p q : St) (w : World) : (Op.equalIn 10000 54 (.agg p.c) (.agg q.c)).run Tryz.prog w = .ok (decide (cSt p q = 0)) w := by
  rw [run_equalIn_agg w 9999 54 _ _ (by simp [Program.fieldsOf, Tryz.underlying54]) (by kernel_rfl), flSt]
  have key : (Op.eqFields 9999 p.c q.c [⟨"Kind", 52, 0, false, "", "", 0⟩, ⟨"Key", 9, 1, false, "", "", 8⟩, ⟨"N", 3, 2, false, "", "", 24⟩]).run Tryz.prog w = .ok (p.k == q.k && ((p.s.toList == q.s.toList) && (p.n == q.n && true))) w := by
    refine eqF (by decide) (part_one (agK w) rfl) (part_one (agK w) rfl) (run_equalIn_int w 9998 52 .u8 .u8 _ _ Tryz.underlying52) ?_
    refine eqF (by decide) (part_one (agS w) rfl) (part_one (agS w) rfl) (run_equalIn_string w 9998 9 _ _ Tryz.underlying9) ?_
    refine eqF (by decide) (part_one (agN w) rfl) (part_one (agN w) rfl) (run_equalIn_int w 9998 3 .i64 .i64 _ _ Tryz.underlying3) ?_
    simp [Op.eqFields]
  rw [key]
  congr 1
  rw [Bool.eq_iff_iff, decide_eq_true_iff, cSt_zero]
  obtain ⟨k, s, n⟩ := p
  obtain ⟨k', s', n'⟩ := q
  have e := @cS_zero s s'
  have ext : s.toList = s'.toList ↔ s = s' := by
    rw [← e]
    rcases cS_val s s' with ⟨p, e⟩ | ⟨p, e⟩ | ⟨p, e⟩ <;> rw [e]
    · constructor
      · intro h; rw [h, bl_irrefl] at p; cases p
      · intro h; omega
    · exact ⟨fun _ => rfl, fun _ => p⟩
    · constructor
      · intro h; rw [h, bl_irrefl] at p; cases p
      · intro h; omega
  simp only [Bool.and_eq_true, beq_iff_eq, and_true, St.mk.injEq, ext]
end Go.Proofs.YthffcdahjcpdfaaGreatDoor
