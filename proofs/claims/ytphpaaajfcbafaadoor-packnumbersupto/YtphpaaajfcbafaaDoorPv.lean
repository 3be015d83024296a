import Derived.Test.YtphpaaajfcbafaaDoorPh
import Derived.ProofKit
import Derived.OpenShut
import Derived.ShutString
import Derived.ChangeOld
import Derived.SizedLaws
import Derived.Deep.Slices
namespace Go.Proofs.YtphpaaajfcbafaaDoor.K
open Go.ChangeShapes Go.WideShapes Go.ChangeAt Go.RowKit
set_option linter.unusedVariables false
set_option linter.unusedSimpArgs false

theorem own : ownKnob Tryd.prog.godebug = none := by kernel_rfl
theorem laidOut : laidOutB Tryd.prog = true := by kernel_rfl
theorem bytes24 : Tryd.prog.bytesOf 35 = 8 := by kernel_rfl
theorem bytes2 : Tryd.prog.bytesOf 2 = 8 := by kernel_rfl
/-- What a slice of whole numbers that came in gives a walk. -/
theorem view_zs {H : Type} {enc : TypeId × Value → H} {W : World} {a : Option Addr} {len cap : Nat} {d : DataW H} {p : List MemPlace} {T e : TypeId} {k : IntKind} (hT : Tryd.prog.underlying T = some (.slice e)) (he : Tryd.prog.underlying e = some (.int k)) (hce : Tryd.prog.cellsOf e = 1)
    (h : DataW.Trod enc Tryd.prog W 0 (fun _ => true) true T (.slice a len cap) d p) :
    ∃ Z : List Int, Z.length = len ∧ len ≤ cap ∧ (a = none → cap = 0) ∧ (Z = [] ∨ ∃ b off, a = some ⟨b, off, none⟩ ∧ ∀ j, j < Z.length → W.cell? ⟨b, off + j, none⟩ = some (.int k (Z.getD j 0))) ∧ (∀ z ∈ Z, (Lit.int k z).wf = true) ∧ (d = .nil ∧ len = 0 ∨ ∃ el sp, d = .slice el sp ∧ el.length = len) := by
  obtain ⟨fuel, hf⟩ := h
  rcases open_ints hT he hce hf with ⟨hcs, hx⟩ | ⟨x, l, c, zs, hcs, _, hl, hm, hz, hx, hcell, hwz⟩
  · simp [Value.cells] at hcs
    obtain ⟨rfl, rfl, rfl⟩ := hcs
    simp only [Prod.mk.injEq] at hx
    exact ⟨[], rfl, Nat.le_refl _, fun _ => rfl, .inl rfl, (fun z hz => by cases hz), .inl ⟨hx.1, rfl⟩⟩
  · simp [Value.cells] at hcs
    obtain ⟨rfl, rfl, rfl⟩ := hcs
    have hz' : zs.length = cap := by simpa using hz
    simp only [Prod.mk.injEq] at hx
    have hlen0 : (zs.take len).length = len := by simp; omega
    refine ⟨zs.take len, hlen0, hl, (fun e => by cases e), ?_, fun z hz => hwz z (List.mem_of_mem_take hz), .inr ⟨_, _, hx.1, by simp [lits]; omega⟩⟩
    by_cases h0 : 0 < len
    · obtain ⟨b, off, spot⟩ := x
      have hc := hcell 0 (by omega)
      have hspot : spot = none := by simpa [Addr.add] using World.cell?_spot hc
      subst hspot
      refine .inr ⟨b, off, rfl, fun j hj => ?_⟩
      rw [hlen0] at hj
      have h1 := hcell j (by omega)
      have e : (⟨b, off, none⟩ : Addr).add j = ⟨b, off + j, none⟩ := by unfold Addr.add; split <;> simp_all
      rw [e] at h1
      rw [h1]
      have hlen : j < zs.length := by omega
      simp [List.getElem?_take, hj]
    · exact .inl (List.eq_nil_of_length_eq_zero (by omega))
theorem view_nums {H : Type} {enc : TypeId × Value → H} {W : World} {a : Option Addr} {len cap : Nat} {d : DataW H} {p : List MemPlace}
    (h : DataW.Trod enc Tryd.prog W 0 (fun _ => true) true 24 (.slice a len cap) d p) :
    ∃ L : List Nat, L.length = len ∧ len ≤ cap ∧ Nums W a L ∧ (∀ x ∈ L, x < 18446744073709551616) ∧ (d = .nil ∧ len = 0 ∨ ∃ el sp, d = .slice el sp ∧ el.length = len) := by
  obtain ⟨Z, h1, h2, h3, h4, h5, h6⟩ := view_zs Tryd.underlying24 Tryd.underlying35 (by kernel_rfl) h
  refine ⟨Z.map Int.toNat, by simpa using h1, h2, ?_, ?_, h6⟩
  · rcases h4 with rfl | ⟨b, off, e, hc⟩
    · exact .inl rfl
    · refine .inr ⟨b, off, e, fun j hj => ?_⟩
      rw [List.length_map] at hj
      rw [hc j hj]
      have hb := bounds_u64 (h5 (Z.getD j 0) (by rw [List.getD_eq_getElem?_getD, List.getElem?_eq_getElem hj]; exact List.getElem_mem _))
      simp only [List.getD_eq_getElem?_getD, List.getElem?_map, List.getElem?_eq_getElem hj, Option.map_some, Option.getD_some] at hb ⊢
      congr 2
      omega
  · intro x hx
    rw [List.mem_map] at hx
    obtain ⟨z, hz, rfl⟩ := hx
    have := bounds_u64 (h5 z hz)
    omega
theorem view_sgn {H : Type} {enc : TypeId × Value → H} {W : World} {a : Option Addr} {len cap : Nat} {d : DataW H} {p : List MemPlace}
    (h : DataW.Trod enc Tryd.prog W 0 (fun _ => true) true 28 (.slice a len cap) d p) :
    ∃ L : List Int, L.length = len ∧ len ≤ cap ∧ Sgn W a L ∧ (∀ x ∈ L, I64 x) ∧ (d = .nil ∧ len = 0 ∨ ∃ el sp, d = .slice el sp ∧ el.length = len) := by
  obtain ⟨Z, h1, h2, h3, h4, h5, h6⟩ := view_zs Tryd.underlying28 Tryd.underlying2 (by kernel_rfl) h
  exact ⟨Z, h1, h2, h4, fun x hx => by have := bounds_i64 (h5 x hx); unfold I64; omega, h6⟩
theorem reach_8 {H : Type} {ts : List TypeId} {ds : List (DataW H)} {T e : TypeId} (hT : Tryd.prog.underlying T = some (.slice e)) (hb : Tryd.prog.bytesOf e = 8) (hsz : (DataW.weightsEach Tryd.prog ts ds).all (· ≤ reachBytes) = true) (j : Nat) (ht : ts[j]? = some T) {d : DataW H} (hd : ds[j]? = some d) {len : Nat}
    (h : d = .nil ∧ len = 0 ∨ ∃ el sp, d = .slice el sp ∧ el.length = len) : len ≤ 17592186044416 := by
  rcases h with ⟨_, rfl⟩ | ⟨el, sp, rfl, rfl⟩
  · omega
  · have := sized_slice hsz (j := j) (t := T) (e := e) ht hd hT
    rw [hb] at this
    simp only [reachBytes] at this
    omega
end Go.Proofs.YtphpaaajfcbafaaDoor.K
