import Derived.Test.YtcipgnocmilkpaaDoorHex
namespace Go.Proofs.YtcipgnocmilkpaaDoor
open Go.RowKit
set_option linter.unusedVariables false
set_option linter.unusedSimpArgs false

def S8s : ByteArray := { data := #[101, 51, 98, 48, 99, 52, 52, 50] }
theorem known8 : (⟨(hexl (sha []) 8).toArray⟩ : ByteArray) = S8s := by kernel_rfl
theorem s8l : S8s.toList = [101, 51, 98, 48, 99, 52, 52, 50] := by kernel_rfl
theorem short_to (w : World) :
    Calls Tryd.prog 5 #[.agg (bs (sha [])), .int .i64 8] w fun e w' => e = .returned (.string S8s) ∧ Below w.heap.size w w' := by
  have h := short_in (sha []) (sha_len _) 8 (by omega) w
  rw [known8] at h
  exact h
set_option maxRecDepth 100000 in
set_option maxHeartbeats 2000000 in
theorem names_any (w : World) (hK : KeysAt w) (hF : FirstAt w) :
    Calls Tryd.prog 3 #[] w fun e w' => e = .returned (.bool true) ∧ Below w.heap.size w w' := by
  go_enter Tryd.func3, Tryd.ntmps3
  go_wp2_with fail
  refine (sum_any none [] 0 0 w rfl (.inl rfl) (fun b off e => by cases e) (by simp) (by simp) hK hF).mono ?_
  rintro e w1 ⟨rfl, hb1⟩
  go_wp2_with fail
  refine (short_to w1).mono ?_
  rintro e w2 ⟨rfl, hb2⟩
  have z1 := hb1.size
  have bl2 : Below w.heap.size w w2 := hb1.trans (hb2.mono (by omega))
  clear hb1 hb2
  have t1 := s8l
  go_wp2
  go_ret
  exact ⟨rfl, bl2⟩
end Go.Proofs.YtcipgnocmilkpaaDoor
