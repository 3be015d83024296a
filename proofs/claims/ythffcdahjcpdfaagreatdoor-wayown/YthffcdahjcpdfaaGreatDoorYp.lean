import Derived.Test.YthffcdahjcpdfaaGreatDoorGYv
import Derived.Test.YthffcdahjcpdfaaGreatDoorGWd
namespace Go.Proofs.YthffcdahjcpdfaaGreatDoor
open Go.ChangeShapes Go.WideShapes Go.ChangeAt Go.RowKit Go.Shelf
set_option linter.unusedVariables false
set_option linter.unusedSimpArgs false

theorem pow_below {W w' : World} (hT : PowW W) (hb : Below W.heap.size W w') : PowW w' := by
  have hlt : 5 < W.heap.size := by
    have h := hT.cell (show Tryz.prog.globalNamed "internal/strconv.uint64pow10" = some 5 by kernel_rfl) 0 (by rw [Lib.pow10Tab_length]; decide)
    exact block_lt_of_cell h
  have hT' : W.var? Tryz.prog "internal/strconv.uint64pow10" = _ := hT
  show w'.var? Tryz.prog "internal/strconv.uint64pow10" = _
  rw [← hT']
  unfold World.var?
  rw [show Tryz.prog.globalNamed "internal/strconv.uint64pow10" = some 5 by kernel_rfl]
  simp only [Option.bind_some]
  rw [hb.block _ hlt]
theorem gPow : Tryz.prog.globalNamed "internal/strconv.uint64pow10" = some 5 := by kernel_rfl
theorem dPow {H : Type} : (Rows.laid_internal_strconv_uint64pow10 : DataW H) = Lib.tabData .u64 Lib.pow10Tab := by kernel_rfl
theorem powT : ∃ t, (Tryz.prog.globals[5]?).map (·.type) = some t ∧ Tryz.prog.underlying t = some (.array 20 152) ∧ Tryz.prog.cellsOf t = 20 :=
  ⟨180, by kernel_rfl, by kernel_rfl, by kernel_rfl⟩
theorem pow_of {W : World} {laid : List (String × DataW Unit)} (h : laidMet Tryz.prog laid W) (hm : ("internal/strconv.uint64pow10", (Rows.laid_internal_strconv_uint64pow10 : DataW Unit)) ∈ laid) : PowB W.heap.size W := by
  rw [dPow] at hm
  obtain ⟨t, h1, h2, h3⟩ := powT
  obtain ⟨g', t', cs, fuel, p, hg', ht', hvar, hd⟩ := Lib.laidMet.reads h hm
  obtain rfl := Option.some.inj (gPow.symm.trans hg')
  obtain rfl := Option.some.inj (h1.symm.trans ht')
  have hc := Lib.cells_of_tab h2 Tryz.underlying152 (by kernel_rfl) h3 hd
  have hT : PowW W := by
    show Lib.TabIs _ _ _ _ _
    unfold Lib.TabIs
    rw [hvar, ← hc]
  exact fun w' hb => pow_below hT hb
end Go.Proofs.YthffcdahjcpdfaaGreatDoor
