import Derived.Test.YtmmdbilfjgmdhaaBase
import Derived.WalkKit
import Derived.ProofKit
import Derived.OpenShut
namespace Go.Proofs.Ytmmdbilfjgmdhaa
open Go.ChangeShapes Go.WideShapes Go.ChangeAt Go.RowKit
set_option linter.unusedVariables false
set_option linter.unusedSimpArgs false
section
variable {H : Type} {enc : TypeId × Value → H} {P : Program} {w : World} {base : Nat} {spare : Nat → Bool} {held : Bool}

/-- An array of n bytes that can be read is a row of n bytes. -/
theorem open_bytes {t e : TypeId} {n : Nat} {cs : Array Value} {d : DataW H} {p : List MemPlace} (ht : P.underlying t = some (.array n e)) (he : P.underlying e = some (.int .u8)) (hce : P.cellsOf e = 1) (hsz : cs.size = n)
    (h : DataW.Trod enc P w base spare held t (.agg cs) d p) : ∃ l : List UInt8, l.length = n ∧ cs = bs l := by
  obtain ⟨fuel, hf⟩ := h
  obtain ⟨xs, m, _, _, _, hxs, hall⟩ := DataW.trod_array ht hf
  have key : ∀ i (hi : i < cs.size), ∃ z : Int, cs[i] = .int .u8 z ∧ 0 ≤ z ∧ z ≤ 255 := by
    intro i hi
    have h1 := hall i (by omega)
    rw [hce, Nat.mul_one, List.getElem?_eq_getElem (by omega)] at h1
    obtain ⟨z, e0, _, w0⟩ := DataW.trod_int he h1
    have hb := bounds_u8 w0
    refine ⟨z, ?_, hb.1, hb.2⟩
    have e1 : (Value.agg cs).cells.toList = cs.toList := rfl
    rw [e1, List.drop_eq_getElem_cons (by simpa using hi)] at e0
    simpa using e0
  refine ⟨cs.toList.map (fun v => UInt8.ofNat (intOf v).toNat), by simpa using hsz, ?_⟩
  apply Array.ext
  · simp [bs]
  · intro i h1 h2
    obtain ⟨z, hz, z0, z1⟩ := key i h1
    simp only [bs, List.map_map, List.getElem_toArray, List.getElem_map, Array.getElem_toList, Function.comp_apply]
    rw [hz]
    simp only [intOf, Value.int.injEq, true_and]
    rw [UInt8.toNat_ofNat']
    omega
end
end Go.Proofs.Ytmmdbilfjgmdhaa
