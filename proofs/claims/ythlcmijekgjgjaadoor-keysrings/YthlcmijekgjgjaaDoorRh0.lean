import Derived.Test.YthlcmijekgjgjaaDoorRg
import Derived.Test.YthlcmijekgjgjaaDoorDEq
import Derived.DeepKeys3
namespace Go.Proofs.YthlcmijekgjgjaaDoor
open Go.RowKit
set_option linter.unusedVariables false
set_option linter.unusedSimpArgs false

theorem m_sub {xs A B C : List Value} {off n : Nat} (e : xs = A ++ (B ++ C)) (hA : A.length = off) (hB : B.length = n) : xs.toArray.extract off (off + n) = B.toArray := by
  subst e hA hB
  apply Array.toList_inj.1
  simp
theorem m_get {xs A C : List Value} {v : Value} {off : Nat} (e : xs = A ++ (v :: C)) (hA : A.length = off) : xs.toArray[off]? = some v := by
  subst e hA
  simp
section
variable {w : World}
theorem m_agg {t : TypeId} {xs : Array Value} {off n : Nat} {B : Array Value} (hu : (isAgg t).run Tryd.prog w = .ok true w) (hs : (sizeOf t).run Tryd.prog w = .ok n w) (e : xs.extract off (off + n) = B) : (Go.part t xs off).run Tryd.prog w = .ok (.agg B) w := by
  simp only [Go.part, Sem.run_bind, hu, Result.andThen_ok, if_true, hs, Sem.run_pure, e]
theorem m_one {t : TypeId} {xs : Array Value} {off : Nat} {v : Value} (hu : (isAgg t).run Tryd.prog w = .ok false w) (e : xs[off]? = some v) : (Go.part t xs off).run Tryd.prog w = .ok v w := by
  simp only [Go.part, Sem.run_bind, hu, Result.andThen_ok, Bool.false_eq_true, if_false, e, Sem.run_pure]
theorem m_eqF {d : Nat} {xs ys : Array Value} {f : Field} {fs : List Field} {a b : Value} {r r' : Bool} (hn : f.name ≠ "_") (h1 : (Go.part f.type xs f.offset).run Tryd.prog w = .ok a w) (h2 : (Go.part f.type ys f.offset).run Tryd.prog w = .ok b w)
    (h3 : (Op.equalIn d f.type a b).run Tryd.prog w = .ok r w) (h4 : (Op.eqFields d xs ys fs).run Tryd.prog w = .ok r' w) : (Op.eqFields d xs ys (f :: fs)).run Tryd.prog w = .ok (r && r') w := by
  unfold Op.eqFields
  rw [if_pos hn]
  simp only [Sem.run_bind, h1, h2, h3, Result.andThen_ok]
  cases r with
  | false => simp
  | true => simp [h4]
end
theorem m_sz {t n : Nat} (h : (Tryd.prog.info? t).map (·.size) = some n) (w : World) : (sizeOf t).run Tryd.prog w = .ok n w := by
  cases hq : Tryd.prog.info? t with
  | none => rw [hq] at h; simp at h
  | some i =>
    rw [hq] at h
    simp at h
    simp [sizeOf, typeInfo, hq, h]
theorem agKey (w : World) : (isAgg 24).run Tryd.prog w = .ok true w := by simp [isAgg, run_underlying Tryd.underlying24]
theorem szKey (w : World) : (sizeOf 24).run Tryd.prog w = .ok 32 w := m_sz (by kernel_rfl) w
theorem agInt (w : World) : (isAgg 3).run Tryd.prog w = .ok false w := by simp [isAgg, run_underlying Tryd.underlying3]
theorem fl26 : (Tryd.prog.fieldsOf 26).toList = [⟨"Author", 3, 0, false, "", "", 0⟩, ⟨"Key", 24, 1, false, "", "", 8⟩] := by simp [Program.fieldsOf, Tryd.underlying26]
theorem eqK (d : Nat) (a b : List UInt8) (ha : a.length = 32) (hb : b.length = 32) (w : World) : (Op.equalIn (d + 2) 24 (.agg (bs a)) (.agg (bs b))).run Tryd.prog w = .ok (decide (a = b)) w := by
  obtain ⟨i, hi⟩ : ∃ i, Tryd.prog.info? 5 = some i := by
    cases h : Tryd.prog.info? 5 with
    | none => have : (Tryd.prog.info? 5).isSome = true := by kernel_rfl
              rw [h] at this; cases this
    | some i => exact ⟨i, rfl⟩
  exact eq_bytes d Tryd.underlying24 hi (by kernel_rfl) Tryd.underlying5 a b ha hb w
theorem eqHd (h : Hd) (ok : HdOk h) (w : World) : (Op.equalIn 10000 26 (.agg (hdC h).toArray) (.agg (hdC h).toArray)).run Tryd.prog w = .ok true w := by
  rw [run_equalIn_agg w 9999 26 _ _ (by simp [Program.fieldsOf, Tryd.underlying26]) (by kernel_rfl), fl26]
  have e1 : (h.au == h.au) = true := by simp
  have e2 : decide (h.key = h.key) = true := by simp
  have k1 := run_equalIn_int (P := Tryd.prog) w 9998 3 .i64 .i64 h.au h.au Tryd.underlying3
  have k2 := eqK 9997 h.key h.key ok.l ok.l w
  refine m_eqF (r := true) (r' := true) (by decide) (m_one (agInt w) (m_get (A := []) (C := kcs h.key) rfl rfl)) (m_one (agInt w) (m_get (A := []) (C := kcs h.key) rfl rfl)) (by simpa using k1) ?_
  refine m_eqF (r := true) (r' := true) (by decide) (m_agg (agKey w) (szKey w) (m_sub (A := [.int .i64 h.au]) (B := kcs h.key) (C := []) (by simp [hdC]) rfl (by rw [kcs_len, ok.l]))) (m_agg (agKey w) (szKey w) (m_sub (A := [.int .i64 h.au]) (B := kcs h.key) (C := []) (by simp [hdC]) rfl (by rw [kcs_len, ok.l]))) (by simpa [kcs_arr] using k2) ?_
  simp [Op.eqFields]
theorem neq26 (h : Hd) (ok : HdOk h) (w : World) : (binOp BinOp.neq 26 (.agg (hdC h).toArray) (.agg (hdC h).toArray)).run Tryd.prog w = .ok (.bool false) w := by
  have := eqHd h ok w
  have e : (Op.equal 26 (.agg (hdC h).toArray) (.agg (hdC h).toArray)).run Tryd.prog w = .ok true w := this
  simp [binOp, e]
theorem gd26 (x y : Operand) (u v : Array Value) (w : World) : (eqGuard BinOp.neq 26 x y (.agg u) (.agg v)).run Tryd.prog w = .ok () w := by
  have : Tryd.prog.eqGuardType Tryd.prog.depth 26 = false := by kernel_rfl
  have hp : ∀ w' : World, (Go.program).run Tryd.prog w' = .ok Tryd.prog w' := fun _ => rfl
  simp [eqGuard, hp, this]
end Go.Proofs.YthlcmijekgjgjaaDoor
