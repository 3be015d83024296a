import Derived.Test.YtmmdbilfjgmdhaaRows
import Derived.Test.YtmmdbilfjgmdhaaDi
import Derived.Test.YtmmdbilfjgmdhaaArr
import Derived.WalkKit
import Derived.ProofKit
import Derived.OpenShut
import Derived.ShutString
import Derived.ChangeOld
import Derived.Below
namespace Go.Proofs.Ytmmdbilfjgmdhaa
open Go.ChangeShapes Go.WideShapes Go.ChangeAt Go.RowKit
open Go.ChangeMaps (open_string shut_string)
set_option linter.unusedVariables false
set_option linter.unusedSimpArgs false

theorem own : ownKnob Try.prog.godebug = none := by kernel_rfl
theorem laidOut : laidOutB Try.prog = true := by kernel_rfl
theorem cells23 : Try.prog.cellsOf 23 = 32 := by kernel_rfl
theorem cells25 : Try.prog.cellsOf 25 = 64 := by kernel_rfl
theorem list2 {α : Type} {l : List α} (h : l.length = 2) : ∃ c0 c1, l = [c0, c1] := by
  match l, h with
  | [c0, c1], _ => exact ⟨c0, c1, rfl⟩
/-- Two hashes that came in, opened. -/
theorem two_open {H : Type} {enc : TypeId × Value → H} {W : World} {base : Nat} {v : Value} {d : DataW H} {p : List MemPlace} (hv : Value.okWide Try.prog W .any base 25 v) (h : DataW.Trod enc Try.prog W 0 (fun _ => true) true 25 v d p) :
    ∃ a b : List UInt8, a.length = 32 ∧ b.length = 32 ∧ v = .agg (bs a ++ bs b) := by
  obtain ⟨cs, rfl, hsz⟩ := okWide_struct Try.underlying25 hv
  rw [cells25] at hsz
  obtain ⟨fuel, hf⟩ := h
  obtain ⟨xs, n, _, hx, _, hlen, hfs⟩ := DataW.trod_struct Try.underlying25 hf
  obtain ⟨y0, y1, rfl⟩ := list2 hlen
  have t0 := hfs 0 _ rfl
  have t1 := hfs 1 _ rfl
  have e0 : cs.toList.take 32 = (cs.extract 0 32).toList := by simp
  have e1 : (cs.toList.drop 32).take 32 = (cs.extract 32 64).toList := by simp [List.extract]
  have t0' : DataW.Trod enc Try.prog W 0 (fun _ => true) true 23 (.agg (cs.extract 0 32)) y0.1 y0.2 := ⟨n, by
    have e : (Value.agg (cs.extract 0 32)).cells.toList = cs.toList.take 32 := e0.symm
    rw [e]
    simpa [Value.cells, cells23] using t0⟩
  have t1' : DataW.Trod enc Try.prog W 0 (fun _ => true) true 23 (.agg (cs.extract 32 64)) y1.1 y1.2 := ⟨n, by
    have e : (Value.agg (cs.extract 32 64)).cells.toList = (cs.toList.drop 32).take 32 := e1.symm
    rw [e]
    simpa [Value.cells, cells23] using t1⟩
  obtain ⟨a, ha, ea⟩ := open_bytes Try.underlying23 Try.underlying5 (by kernel_rfl) (by simp [hsz]) t0'
  obtain ⟨b, hb, eb⟩ := open_bytes Try.underlying23 Try.underlying5 (by kernel_rfl) (by simp [hsz]) t1'
  refine ⟨a, b, ha, hb, ?_⟩
  rw [← ea, ← eb]
  congr 1
  rw [Array.extract_append_extract]
  show cs = cs.extract (min 0 32) (max 32 64)
  rw [show min 0 32 = 0 by decide, show max 32 64 = cs.size by rw [hsz]; decide, Array.extract_size]

set_option maxRecDepth 100000 in
theorem digits_lifted (os : Os) (started : os.Started) (H : Type) (enc : TypeId × Value → H) :
    ReturnsInHanded {} Try.checked os 3 .any (Rows.digestDigitsSpec.pre6 enc Try.prog Try.f3 Rows.digestDigitsRow.domain false) (Rows.digestDigitsSpec.post enc Try.prog Try.f3 false true false false) := by
  refine returnsInHanded_of_change (C := Try.checked) own started (by kernel_rfl) Try.func3
    (ChangeSpec.witness6 (enc := enc) (C := Try.checked) false ⟨#[], #[.agg (bs z32 ++ bs z32), .string ByteArray.empty, .int .i64 0], []⟩ 8 (by kernel_rfl) (by kernel_rfl) (by kernel_rfl) (by kernel_rfl)) ?_
  intro W base args ds gs before hval0 hW hcnd _
  have hval : ∀ (j : Nat) t v, Try.f3.params[j]? = some t → args[j]? = some v → Value.okWide Try.prog W .any base t v := hval0
  have hW' := hW
  obtain ⟨p, q, hA0, hV, rfl, hfz, hnd⟩ := hW
  have hA : DataW.TrodAll enc Try.prog W 0 (fun _ => true) true Try.f3.params.toList args.toList ds p := hA0
  rw [Try.params3] at hA hval
  obtain ⟨v0, vs0, d0, ds0, p0, q0, hargs, rfl, rfl, h0, r0⟩ := trodAll_cons hA
  obtain ⟨v1, vs1, d1, ds1, p1, q1, rfl, rfl, rfl, h1, r1⟩ := trodAll_cons r0
  obtain ⟨v2, vs2, d2, ds2, p2, q2, rfl, rfl, rfl, h2, r2⟩ := trodAll_cons r1
  obtain ⟨rfl, rfl, rfl⟩ := trodAll_nil r2
  obtain rfl : args = #[v0, v1, v2] := by cases args; simp_all
  obtain ⟨rfl, rfl⟩ := trodVars_none hV
  have k0 := h0
  have lt0 : ∀ x ∈ p0, x.block < W.heap.size := by obtain ⟨m, hm⟩ := k0; exact DataW.trod_lt m _ _ _ hm
  have lt2 : ∀ x ∈ p2, x.block < W.heap.size := by obtain ⟨m, hm⟩ := h2; exact DataW.trod_lt m _ _ _ hm
  obtain ⟨a, b, ha, hb, rfl⟩ := two_open (hval 0 25 v0 rfl rfl) h0
  obtain ⟨s, rfl, rfl, rfl, hs⟩ := open_string Try.underlying9 (hval 1 9 v1 rfl rfl) h1
  have k2 := h2
  obtain ⟨z, rfl⟩ := okWide_int Try.underlying3 (hval 2 3 v2 rfl rfl)
  clear hA0 hval0
  refine (digits_any a b ha hb s z hs W).mono fun e W' ⟨he, bel⟩ => ?_
  subst he
  exact ⟨_, rfl, _, _, _, [], _, [], hW', trodAll_mk1 (shut_bool Try.underlying4 _), (trodAll_cons_mk (Below.trod laidOut (by kernel_rfl) (of_decide_eq_true (by kernel_rfl)) k0 bel lt0) (trodAll_cons_mk (shut_string Try.underlying9 hs) (trodAll_cons_mk (Below.trod laidOut (by kernel_rfl) (of_decide_eq_true (by kernel_rfl)) k2 bel lt2) trodAll_mk0))), rfl, bel.frame _, fun h => by cases h⟩

theorem digestDigits_holds : Rows.DigestDigitsSaid :=
  OpenClaim.holds_of_wide 3 Try.f3 rfl rfl rfl rfl rfl rfl rfl ⟨rfl, rfl, rfl, rfl, rfl⟩ rfl rfl rfl rfl rfl (by kernel_rfl) Try.func3 (by kernel_rfl)
    (of_decide_eq_true (by kernel_rfl)) (by unfold Func.isWrapper; first | (rw [if_pos (by decide +kernel)]; kernel_rfl) | (rw [if_neg (by decide +kernel)]; exact ⟨rfl, rfl⟩))
    (fun os started H enc _ => digits_lifted os started H enc)
#print axioms digestDigits_holds
end Go.Proofs.Ytmmdbilfjgmdhaa
