import Derived.Test.YtdgbjmhmacgaaaaDoorQd
import Derived.Test.YtdgbjmhmacgaaaaDoorUt
namespace Go.Proofs.YtdgbjmhmacgaaaaDoor
open Go.RowKit
set_option linter.unusedVariables false
set_option linter.unusedSimpArgs false

set_option maxRecDepth 100000 in
set_option maxHeartbeats 400000 in
theorem rquote_yes (s : ByteArray) (w : World) (hs : s.size ≤ 16777216) (hv : Lib.validD s.data.toList = true) :
    Calls Tryd.prog 16 #[.string s] w fun e w' => e = .returned (.string ⟨(quoL s.data.toList).toArray⟩) ∧ Below w.heap.size w w' := by
  have HV : Hid (Calls Tryd.prog 35 #[.string s] w fun e w' => e = .returned (.bool true) ∧ w' = w) := (utf8_any s w (by omega)).mono fun e w' h => ⟨by rw [h.1, hv], h.2⟩
  have HQ : Hid (Calls Tryd.prog 36 #[.string s, .int .u8 34] w fun e w' => e = .returned (.string ⟨(quoL s.data.toList).toArray⟩) ∧ Below w.heap.size w w') := quoted_any s w hs
  generalize quoL s.data.toList = QL at *
  go_enter Tryd.func16, Tryd.ntmps16
  go_wp2_with fail
  refine HV.out.mono ?_
  rintro e _ ⟨rfl, rfl⟩
  go_wp2_with fail
  refine HQ.out.mono ?_
  rintro e w1 ⟨rfl, b1⟩
  go_wp2
  go_ret
  exact ⟨rfl, b1⟩
set_option maxRecDepth 100000 in
set_option maxHeartbeats 400000 in
theorem rquote_no (s : ByteArray) (w : World) (hs : s.size ≤ 16777216) (hv : Lib.validD s.data.toList = false) :
    Calls Tryd.prog 16 #[.string s] w fun e w' => e = .returned (.string ⟨#[]⟩) ∧ Below w.heap.size w w' := by
  have HV : Hid (Calls Tryd.prog 35 #[.string s] w fun e w' => e = .returned (.bool false) ∧ w' = w) := (utf8_any s w (by omega)).mono fun e w' h => ⟨by rw [h.1, hv], h.2⟩
  go_enter Tryd.func16, Tryd.ntmps16
  go_wp2_with fail
  refine HV.out.mono ?_
  rintro e _ ⟨rfl, rfl⟩
  go_wp2
  go_ret
  exact ⟨rfl, Below.refl _ _⟩
set_option maxRecDepth 100000 in
set_option maxHeartbeats 400000 in
theorem quotes_all (s : ByteArray) (w : World) (hs : s.size ≤ 16777216) (hT : Tabs w) :
    Calls Tryd.prog 5 #[.string s] w fun e w' => e = .returned (.bool true) ∧ Below w.heap.size w w' := by
  obtain ⟨R, HA, HB⟩ : ∃ R, Hid (Calls Tryd.prog 15 #[.string s] w fun e w' => e = .returned (.string R) ∧ Below w.heap.size w w') ∧ Hid (∀ wx, Calls Tryd.prog 16 #[.string s] wx fun e w' => e = .returned (.string R) ∧ Below wx.heap.size wx w') := by
    cases hv : Lib.validD s.data.toList with
    | true => exact ⟨_, quote_yes s w hs hT hv, fun wx => rquote_yes s wx hs hv⟩
    | false => exact ⟨_, quote_no s w hs hT hv, fun wx => rquote_no s wx hs hv⟩
  have q : (R.toList == R.toList) = true := by simp
  clear hT
  go_enter Tryd.func5, Tryd.ntmps5
  go_wp2_with fail
  refine HA.out.mono ?_
  rintro e w1 ⟨rfl, b1⟩
  go_wp2_with fail
  refine (HB.out _).mono ?_
  rintro e w2 ⟨rfl, b2⟩
  go_wp2
  go_ret
  exact ⟨by first | rfl | simp, b1.trans (b2.mono b1.size)⟩
end Go.Proofs.YtdgbjmhmacgaaaaDoor
