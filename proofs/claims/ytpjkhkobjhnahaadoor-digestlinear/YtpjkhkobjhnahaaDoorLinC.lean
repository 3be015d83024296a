import Derived.Test.YtpjkhkobjhnahaaDoorLinB
namespace Go.Proofs.YtpjkhkobjhnahaaDoor
open Go.RowKit
theorem make0 (wx : World) : (Instr.makeSlice 26 (.int .i64 0) (.int .i64 0)).run Tryd.prog wx = .ok (.slice (some ⟨wx.heap.size, 0, none⟩) 0 0) (wx.alloc (.cells #[] 5)) := by
  have h := run_make_row' (P := Tryd.prog) 26 5 (.int .u8 0) 1 Tryd.underlying26 Tryd.info5 rfl .i64 .i64 0 (by omega) (by omega) wx
  have e : madeCells #[.int .u8 0] 0 = #[] := by simp [madeCells]
  rw [e] at h
  exact h
end Go.Proofs.YtpjkhkobjhnahaaDoor
