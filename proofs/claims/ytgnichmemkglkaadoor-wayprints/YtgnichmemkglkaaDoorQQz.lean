import Derived.Test.YtgnichmemkglkaaDoorQQd
import Derived.Test.YtgnichmemkglkaaDoorQUt
namespace Go.Proofs.YtgnichmemkglkaaDoor.Q
open Go.RowKit
set_option linter.unusedVariables false
set_option linter.unusedSimpArgs false

set_option maxRecDepth 100000 in
set_option maxHeartbeats 400000 in
theorem rquote_yes (s : ByteArray) (w : World) (hs : s.size ≤ 16777216) (hv : Lib.validD s.data.toList = true) :
    Calls Tryd.prog 17 #[.string s] w fun e w' => e = .returned (.string ⟨(quoL s.data.toList).toArray⟩) ∧ Below w.heap.size w w' := by
  have HV : Hid (Calls Tryd.prog 29 #[.string s] w fun e w' => e = .returned (.bool true) ∧ w' = w) := (utf8_any s w (by omega)).mono fun e w' h => ⟨by rw [h.1, hv], h.2⟩
  have HQ : Hid (Calls Tryd.prog 30 #[.string s, .int .u8 34] w fun e w' => e = .returned (.string ⟨(quoL s.data.toList).toArray⟩) ∧ Below w.heap.size w w') := quoted_any s w hs
  generalize quoL s.data.toList = QL at *
  go_enter Tryd.func17, Tryd.ntmps17
  go_wp2_with fail
  refine HV.out.mono ?_
  rintro e _ ⟨rfl, rfl⟩
  go_wp2_with fail
  refine HQ.out.mono ?_
  rintro e w1 ⟨rfl, b1⟩
  go_wp2
  go_ret
  exact ⟨rfl, b1⟩
set_option maxRecDepth 100000 in
set_option maxHeartbeats 400000 in
theorem rquote_no (s : ByteArray) (w : World) (hs : s.size ≤ 16777216) (hv : Lib.validD s.data.toList = false) :
    Calls Tryd.prog 17 #[.string s] w fun e w' => e = .returned (.string ⟨#[]⟩) ∧ Below w.heap.size w w' := by
  have HV : Hid (Calls Tryd.prog 29 #[.string s] w fun e w' => e = .returned (.bool false) ∧ w' = w) := (utf8_any s w (by omega)).mono fun e w' h => ⟨by rw [h.1, hv], h.2⟩
  go_enter Tryd.func17, Tryd.ntmps17
  go_wp2_with fail
  refine HV.out.mono ?_
  rintro e _ ⟨rfl, rfl⟩
  go_wp2
  go_ret
  exact ⟨rfl, Below.refl _ _⟩
end Go.Proofs.YtgnichmemkglkaaDoor.Q
