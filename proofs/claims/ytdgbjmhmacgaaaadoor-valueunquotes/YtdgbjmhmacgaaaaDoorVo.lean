import Derived.Test.YtdgbjmhmacgaaaaDoorNa
import Derived.ProofKit
import Derived.OpenShut
import Derived.Lib.LaidU8
import Derived.Laws.Cover2
namespace Go.Proofs.YtdgbjmhmacgaaaaDoor
open Go.ChangeShapes Go.WideShapes Go.ChangeAt Go.RowKit
set_option linter.unusedVariables false
set_option linter.unusedSimpArgs false

theorem array4 {α : Type} {cs : Array α} (h : cs.size = 4) : ∃ c0 c1 c2 c3, cs = #[c0, c1, c2, c3] := by
  obtain ⟨l⟩ := cs
  match l, h with
  | [c0, c1, c2, c3], _ => exact ⟨c0, c1, c2, c3, rfl⟩
theorem list4 {α : Type} {l : List α} (h : l.length = 4) : ∃ c0 c1 c2 c3, l = [c0, c1, c2, c3] := by
  match l, h with
  | [c0, c1, c2, c3], _ => exact ⟨c0, c1, c2, c3, rfl⟩
theorem trod_float {H : Type} {enc : TypeId × Value → H} {P : Program} {w : World} {base : Nat} {spare : Nat → Bool} {held : Bool} {fuel : Nat} {t : TypeId} {cs : List Value} {x : DataW H × List MemPlace} {k : FloatKind} (ht : P.underlying t = some (.float k)) (h : DataW.trod enc P w base spare held fuel t cs = some x) :
    ∃ b, cs = [.float k b] ∧ (Lit.float k b).wf = true := by
  cases fuel with
  | zero => simp [DataW.trod] at h
  | succ n =>
    unfold DataW.trod at h
    rw [ht] at h
    split at h <;> simp_all
theorem cells22 : Tryd.prog.cellsOf 22 = 1 := by kernel_rfl
theorem cells2 : Tryd.prog.cellsOf 2 = 1 := by kernel_rfl
theorem cells23 : Tryd.prog.cellsOf 23 = 1 := by kernel_rfl
theorem cells9 : Tryd.prog.cellsOf 9 = 1 := by kernel_rfl
/-- A value of package api that came in, opened. -/
theorem value_open {H : Type} {enc : TypeId × Value → H} {W : World} {base : Nat} {v : Value} {d : DataW H} {p : List MemPlace} (hv : Value.okWide Tryd.prog W .any base 25 v) (h : DataW.Trod enc Tryd.prog W 0 (fun _ => true) true 25 v d p) :
    ∃ (k n : Int) (f : Nat) (s : ByteArray), v = .agg #[.int .u8 k, .int .i64 n, .float .f64 f, .string s] ∧ (0 ≤ k ∧ k ≤ 255) ∧ (Lit.int .i64 n).wf = true ∧ (Lit.float .f64 f).wf = true ∧ s.size ≤ maxLen := by
  obtain ⟨cs, rfl, hsz⟩ := okWide_struct Tryd.underlying25 hv
  obtain ⟨c0, c1, c2, c3, rfl⟩ := array4 (hsz.trans (by kernel_rfl))
  obtain ⟨fuel, hf⟩ := h
  obtain ⟨xs, n, _, hx, _, hlen, hfs⟩ := DataW.trod_struct Tryd.underlying25 hf
  obtain ⟨y0, y1, y2, y3, rfl⟩ := list4 hlen
  have t0 : DataW.trod enc Tryd.prog W 0 (fun _ => true) true n 22 [c0] = some y0 := by simpa [Value.cells, cells22] using hfs 0 _ rfl
  have t1 : DataW.trod enc Tryd.prog W 0 (fun _ => true) true n 2 [c1] = some y1 := by simpa [Value.cells, cells2] using hfs 1 _ rfl
  have t2 : DataW.trod enc Tryd.prog W 0 (fun _ => true) true n 23 [c2] = some y2 := by simpa [Value.cells, cells23] using hfs 2 _ rfl
  have t3 : DataW.trod enc Tryd.prog W 0 (fun _ => true) true n 9 [c3] = some y3 := by simpa [Value.cells, cells9] using hfs 3 _ rfl
  obtain ⟨z0, e0, _, w0⟩ := DataW.trod_int Tryd.underlying22 t0
  obtain ⟨z1, e1, _, w1⟩ := DataW.trod_int Tryd.underlying2 t1
  obtain ⟨z2, e2, w2⟩ := trod_float Tryd.underlying23 t2
  obtain ⟨z3, e3, _, w3⟩ := DataW.trod_string Tryd.underlying9 t3
  simp at e0 e1 e2 e3
  subst e0 e1 e2 e3
  have b0 := bounds_u8 w0
  exact ⟨z0, z1, z2, z3, rfl, ⟨by omega, by omega⟩, w1, w2, w3⟩
theorem names_of {W : World} {laid : List (String × DataW Unit)} {nm : String} {g : Nat} (h : laidMet Tryd.prog laid W) (hg : Tryd.prog.globalNamed nm = some g) (ht : (Tryd.prog.globals[g]?).map (·.type) = some 62)
    (hm : (nm, (.agg (nmL.map fun l => .lit (.string l)) : DataW Unit)) ∈ laid) : NamesAt g W := by
  obtain ⟨g', t', cs, fuel, p, hg', ht', hvar, hd⟩ := Lib.laidMet.reads h hm
  obtain rfl := Option.some.inj (hg.symm.trans hg')
  obtain rfl := Option.some.inj (ht.symm.trans ht')
  obtain ⟨xs, m, _, hx, hcl, hxl, hall⟩ := DataW.trod_array und62 hd
  have hcl' : cs.size = 12 := by have h12 : Tryd.prog.cellsOf 62 = 12 := by kernel_rfl
                                 rw [h12] at hcl; simpa using hcl
  have hxs : xs.map (·.1) = nmL.map fun l => (.lit (.string l) : DataW Unit) := by
    have := congrArg Prod.fst hx
    simp at this
    exact this.symm
  have key : cs = nmC := by
    apply Array.ext
    · rw [hcl']; rfl
    · intro i h1 h2
      have hi : i < 12 := by omega
      have ha := hall i hi
      rw [cells9, Nat.mul_one] at ha
      obtain ⟨b, hb⟩ : ∃ b, xs[i]? = some b := ⟨xs[i]'(by omega), List.getElem?_eq_getElem (by omega)⟩
      rw [hb] at ha
      obtain ⟨s, e, eb, _⟩ := DataW.trod_string Tryd.underlying9 ha
      have e1 : cs[i] = .string s := by
        rw [List.drop_eq_getElem_cons (by simpa using h1)] at e
        simpa using e
      have e2 : s.data.toList = nmL.getD i [] := by
        have h3 : (xs.map (·.1))[i]? = (nmL.map fun l => (.lit (.string l) : DataW Unit))[i]? := by rw [hxs]
        rw [List.getElem?_map, List.getElem?_map, hb, eb, List.getElem?_eq_getElem (show i < nmL.length from hi)] at h3
        have h4 : s.data.toList = nmL[i]'(show i < nmL.length from hi) := by simpa using h3
        rw [h4, List.getD_eq_getElem?_getD, List.getElem?_eq_getElem (show i < nmL.length from hi)]
        rfl
      rw [e1]
      have := nmC_at i hi
      rw [Array.getElem?_eq_getElem h2] at this
      rw [Option.some.inj this]
      congr 1
      unfold nmB
      rw [← e2]
  subst key
  unfold World.var? at hvar
  rw [hg] at hvar
  simp only [Option.bind_some] at hvar
  split at hvar
  · rename_i c t fr hh
    simp at hvar
    subst hvar
    exact ⟨t, fr, hh⟩
  · cases hvar
end Go.Proofs.YtdgbjmhmacgaaaaDoor
