import Derived.Test.YteggiecmfclcjaaDoorZj
import Derived.Test.YteggiecmfclcjaaDoorYw
import Derived.Test.YteggiecmfclcjaaDoorTie
import Derived.Test.YteggiecmfclcjaaDoorCards
import Derived.Lib.LaidU8T
import Derived.Lib.LaidU8
import Derived.LaidMore
import Derived.Stop.Joined
import Derived.Stop.LaidErr
import Derived.Stop.LaidTwo
import Derived.SevenTiedAt
import Derived.Lay
import Derived.Lib.SmallJoins
import Derived.SizedLaws
import Derived.Deep.DeepHandedRow
import Derived.JoinedCond
import Derived.Laws.Cover2
namespace Go.Proofs.YteggiecmfclcjaaDoor
open Go.ChangeShapes Go.WideShapes Go.ChangeAt Go.RowKit Go.Shelf
set_option linter.unusedVariables false
set_option linter.unusedSimpArgs false

def u8_ren : Go.Shelf.Ren := ⟨fun n => n, fun | 119 => 63 | 138 => 65 | 139 => 66 | n => n, fun | 3 => 3 | 4 => 4 | n => n⟩
theorem u8t : U8Types Tryd.prog u8_ren := ⟨Tryd.underlying5, Tryd.underlying63, Tryd.underlying65, Tryd.underlying66⟩
theorem u8x : U8Extra Tryd.prog u8_ren := ⟨by kernel_rfl, by kernel_rfl, by kernel_rfl, by kernel_rfl, by kernel_rfl, by kernel_rfl, by kernel_rfl⟩
theorem dF : (Rows.laid_unicode_utf8_first : DataW Unit) = Lib.firstData := by kernel_rfl
theorem dA : (Rows.laid_unicode_utf8_acceptRanges : DataW Unit) = Lib.acceptData := by kernel_rfl
theorem tabs_of {W : World} {laid : List (String × DataW Unit)} (h : laidMet Tryd.prog laid W) (h3 : ("unicode/utf8.first", (Rows.laid_unicode_utf8_first : DataW Unit)) ∈ laid) (h4 : ("unicode/utf8.acceptRanges", (Rows.laid_unicode_utf8_acceptRanges : DataW Unit)) ∈ laid) : K.V.Tabs W := by
  rw [dF] at h3
  rw [dA] at h4
  exact utf8Tabs_of_readsT u8t u8x (Lib.laidMet.reads h h3) (Lib.laidMet.reads h h4)
theorem gN0 : Tryd.prog.globalNamed "estuary/way.errLong" = some 0 := by kernel_rfl
theorem gN1 : Tryd.prog.globalNamed "estuary/way.errStep" = some 1 := by kernel_rfl
theorem gN2 : Tryd.prog.globalNamed "estuary/way.errText" = some 2 := by kernel_rfl
theorem gT0 : (Tryd.prog.globals[0]?).map (·.type) = some 38 := by kernel_rfl
theorem gT1 : (Tryd.prog.globals[1]?).map (·.type) = some 38 := by kernel_rfl
theorem gT2 : (Tryd.prog.globals[2]?).map (·.type) = some 38 := by kernel_rfl
theorem cellsE : Tryd.prog.cellsOf 95 = 1 := by kernel_rfl
theorem cells9 : Tryd.prog.cellsOf 9 = 1 := by kernel_rfl
theorem starE : "*" ++ "errors.errorString" = "*errors.errorString" := by decide
theorem rowE (u : TypeId) (h : Tryd.prog.typeName? 3 u = some "*errors.errorString") : u = 69 :=
  typeName_ptr_named (nm := "errors.errorString") (by rw [starE]; kernel_rfl) (by kernel_rfl) (by decide) u (by rw [starE]; exact h)
/-- What the laid errors give. -/
theorem snt_of {W : World} {d : DataW Unit} {r : List (String × DataW Unit)} (h : laidMet Tryd.prog (("unicode/utf8.acceptRanges", d) :: ("estuary/way.errLong", Rows.laid_estuary_way_errLong) :: ("estuary/way.errStep", Rows.laid_estuary_way_errStep) :: ("estuary/way.errText", Rows.laid_estuary_way_errText) :: r) W) : ∃ a0 a1 a2, Snt W a0 a1 a2 := by
  have h1 := laidMet.tail h
  have h2 := laidMet.tail h1
  obtain ⟨a0, a1, s0, s1, c0, c1, t0, t1, hv0, hv1, hc0, hs0, hz0, hc1, hs1, hz1, hne, hb0, hb1⟩ := laid_sentinels2 h1 gN0 gT0 gN1 gT1 Tryd.underlying38 rowE Tryd.underlying69 Tryd.underlying95 rfl rfl Tryd.underlying9 cellsE cells9
  obtain ⟨a1', a2, s1', s2, c1', c2, t1', t2, hv1', hv2, hc1', hs1', hz1', hc2, hs2, hz2, hne', hb1', hb2⟩ := laid_sentinels2 h2 gN1 gT1 gN2 gT2 Tryd.underlying38 rowE Tryd.underlying69 Tryd.underlying95 rfl rfl Tryd.underlying9 cellsE cells9
  have e : a1' = a1 := by
    have := hv1'.symm.trans hv1
    simpa using this
  subst e
  refine ⟨a0, a1', a2, ?_, ?_, ?_, hne, hne', ?_, ⟨_, _, hb0⟩, ⟨_, _, hb1⟩, ⟨_, _, hb2⟩⟩
  · simpa using World.var?_cell gN0 hv0 0
  · simpa using World.var?_cell gN1 hv1 0
  · simpa using World.var?_cell gN2 hv2 0
  · rintro rfl
    have := hc0.symm.trans hc2
    simp at this
    subst this
    rw [hs0] at hs2
    revert hs2
    decide

theorem bulk_one {H : Type} (d : DataW H) : 1 ≤ Rows.uptoBulk d := by
  cases d with
  | lit l => cases l <;> simp [Rows.uptoBulk]
  | _ => simp [Rows.uptoBulk]
theorem bulk_len {H : Type} (l : List (DataW H)) : l.length ≤ Rows.uptoBulkAll l := by
  induction l with
  | nil => simp [Rows.uptoBulkAll]
  | cons x r ih => have := bulk_one x; simp only [Rows.uptoBulkAll, List.length_cons]; omega
end Go.Proofs.YteggiecmfclcjaaDoor
