import Derived.Test.YtpmdlhlojifoeaaDoorView
import Derived.Test.YtpmdlhlojifoeaaDoorRSum
import Derived.Test.YtpmdlhlojifoeaaDoorNew
import Derived.Test.YtpmdlhlojifoeaaDoorTie
import Derived.Test.YtpmdlhlojifoeaaDoorCards
import Derived.SevenTiedAt
namespace Go.Proofs.YtpmdlhlojifoeaaDoor
open Go.ChangeShapes Go.WideShapes Go.ChangeAt Go.RowKit
set_option linter.unusedVariables false
set_option linter.unusedSimpArgs false

/-- A listed table of numbers of 32 bits: its cells. -/
theorem tab_cells {W : World} {name : String} {l : List UInt32} {laid : List (String × DataW Unit)} {g : Nat} {t : TypeId} {n : Nat} (h : laidMet Tryd.prog laid W) (hm : (name, Lib.tabData .u32 (l.map U)) ∈ laid)
    (hg : Tryd.prog.globalNamed name = some g) (hty : (Tryd.prog.globals[g]?).map (·.type) = some t) (ht : Tryd.prog.underlying t = some (.array n 27)) (hct : Tryd.prog.cellsOf t = n) :
    ∀ j, j < l.length → W.cell? ⟨g, j, none⟩ = some (.int .u32 (U (l.getD j 0))) := by
  obtain ⟨g', t', cs, fuel, p, hg', ht', hvar, hd⟩ := Lib.laidMet.reads h hm
  obtain rfl := Option.some.inj (hg.symm.trans hg')
  obtain rfl := Option.some.inj (hty.symm.trans ht')
  have hc := Lib.cells_of_tab ht Tryd.underlying27 (by kernel_rfl) hct hd
  have hT : Lib.TabIs Tryd.prog W name .u32 (l.map U) := by
    unfold Lib.TabIs
    rw [hvar, ← hc]
  intro j hj
  rw [hT.cell hg j (by simpa using hj)]
  have e : (l.map U).getD j 0 = U (l.getD j 0) := by simp [List.getElem?_eq_getElem hj]
  rw [e]

theorem gNib : Tryd.prog.globalNamed "estuary/digest.crcNibbles" = some 0 := by kernel_rfl
theorem gFirst : Tryd.prog.globalNamed "estuary/digest.firstState" = some 2 := by kernel_rfl
theorem gKeys : Tryd.prog.globalNamed "estuary/digest.roundKeys" = some 4 := by kernel_rfl
theorem dNib {H : Type} : (Rows.laid_estuary_digest_crcNibbles : DataW H) = Lib.tabData .u32 (nibs.map U) := by kernel_rfl
theorem dFirst {H : Type} : (Rows.laid_estuary_digest_firstState : DataW H) = Lib.tabData .u32 (first.list.map U) := by kernel_rfl
theorem dKeys {H : Type} : (Rows.laid_estuary_digest_roundKeys : DataW H) = Lib.tabData .u32 (keys.map U) := by kernel_rfl

theorem nibs_of {W : World} {laid : List (String × DataW Unit)} (h : laidMet Tryd.prog laid W) (hm : ("estuary/digest.crcNibbles", Rows.laid_estuary_digest_crcNibbles) ∈ laid) : NibsAt W := by
  rw [dNib] at hm
  exact tab_cells (n := 16) h hm gNib (t := 53) (by kernel_rfl) Tryd.underlying53 (by kernel_rfl)
theorem first_of {W : World} {laid : List (String × DataW Unit)} (h : laidMet Tryd.prog laid W) (hm : ("estuary/digest.firstState", Rows.laid_estuary_digest_firstState) ∈ laid) : FirstAt W := by
  rw [dFirst] at hm
  exact tab_cells (n := 8) h hm gFirst (t := 58) (by kernel_rfl) Tryd.underlying58 (by kernel_rfl)
theorem keys_of {W : World} {laid : List (String × DataW Unit)} (h : laidMet Tryd.prog laid W) (hm : ("estuary/digest.roundKeys", Rows.laid_estuary_digest_roundKeys) ∈ laid) : KeysAt W := by
  rw [dKeys] at hm
  exact tab_cells (n := 64) h hm gKeys (t := 67) (by kernel_rfl) Tryd.underlying67 (by kernel_rfl)

theorem gRoots : Tryd.prog.globalNamed "estuary/estuaryref01.roots" = some 1 := by kernel_rfl
theorem gRounds : Tryd.prog.globalNamed "estuary/estuaryref01.rounds" = some 3 := by kernel_rfl
theorem dRoots {H : Type} : (Rows.laid_estuary_estuaryref01_roots : DataW H) = Lib.tabData .u32 (first.list.map U) := by kernel_rfl
theorem dRounds {H : Type} : (Rows.laid_estuary_estuaryref01_rounds : DataW H) = Lib.tabData .u32 (keys.map U) := by kernel_rfl
theorem roots_of {W : World} {laid : List (String × DataW Unit)} (h : laidMet Tryd.prog laid W) (hm : ("estuary/estuaryref01.roots", Rows.laid_estuary_estuaryref01_roots) ∈ laid) : RootsAt W := by
  rw [dRoots] at hm
  exact tab_cells (n := 8) h hm gRoots (t := 58) (by kernel_rfl) Tryd.underlying58 (by kernel_rfl)
theorem rounds_of {W : World} {laid : List (String × DataW Unit)} (h : laidMet Tryd.prog laid W) (hm : ("estuary/estuaryref01.rounds", Rows.laid_estuary_estuaryref01_rounds) ∈ laid) : RoundsAt W := by
  rw [dRounds] at hm
  exact tab_cells (n := 64) h hm gRounds (t := 67) (by kernel_rfl) Tryd.underlying67 (by kernel_rfl)
theorem reach_of {H : Type} {ts : List TypeId} {ds : List (DataW H)} (hsz : (DataW.weightsEach Tryd.prog ts ds).all (· ≤ reachBytes) = true) (j : Nat) (ht : ts[j]? = some 26) {d : DataW H} (hd : ds[j]? = some d) {len : Nat}
    (h : d = .nil ∧ len = 0 ∨ ∃ el sp, d = .slice el sp ∧ el.length = len) : len ≤ 140737488351232 := by
  rcases h with ⟨_, rfl⟩ | ⟨el, sp, rfl, rfl⟩
  · omega
  · have := sized_slice hsz (j := j) (t := 26) (e := 5) ht hd Tryd.underlying26
    rw [bytes5] at this
    simp only [reachBytes] at this
    omega
theorem byt_of {W : World} {a : Option Addr} {L : List UInt8} {len : Nat} (hl : L.length = len) (h : 0 < len → ∃ b off, a = some ⟨b, off, none⟩ ∧ ∀ j, j < len → W.cell? ⟨b, off + j, none⟩ = some (.int .u8 (at8 L j))) : Byt W a L := by
  by_cases h0 : 0 < len
  · obtain ⟨b, off, e, hc⟩ := h h0
    exact .inr ⟨b, off, e, fun j hj => hc j (by omega)⟩
  · exact .inl (List.eq_nil_of_length_eq_zero (by omega))
end Go.Proofs.YtpmdlhlojifoeaaDoor
