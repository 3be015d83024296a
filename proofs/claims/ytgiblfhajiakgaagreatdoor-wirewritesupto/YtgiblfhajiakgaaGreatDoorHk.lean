import Derived.Test.YtgiblfhajiakgaaGreatDoorHj
namespace Go.Proofs.YtgiblfhajiakgaaGreatDoor
open Go.RowKit
set_option linter.unusedVariables false
set_option linter.unusedSimpArgs false

theorem hs_app {w : World} {b off : Nat} {L M : List (List UInt8)} (h : Hs w b off (L ++ M)) : Hs w b off L := fun i x e => h i x (by rw [List.getElem?_append_left (List.getElem?_eq_some_iff.1 e).1]; exact e)

set_option maxRecDepth 100000 in
set_option maxHeartbeats 1000000 in
/-- What was handed in is as it was. -/
theorem keptH_any (g : Nat) (a2 : Option Addr) (L : List (List UInt8)) (c2 : Nat) (w : World) (hL : All32 L) (hb : L.length ≤ 4398046511104) (h1 : Hs w g 0 (L ++ marks)) (h2 : Hl w a2 L) :
    Calls Tryz.prog 42 #[.slice (some ⟨g, 0, none⟩) L.length (L.length + 9), .slice a2 L.length c2] w fun e w' => e = .returned (.bool true) ∧ ∃ m, w' = w.drewN m := by
  have HS0 := sameH_any (some ⟨g, 0, none⟩) a2 L L (L.length + 9) c2 w hL hL hb (.inr ⟨g, 0, rfl, hs_app h1⟩) h2
  simp only [decide_true] at HS0
  obtain ⟨n, hn⟩ : ∃ n, n = L.length := ⟨_, rfl⟩
  rw [← hn] at HS0 hb ⊢
  have HN : Hid (n = L.length) := hn
  have HS1 : Hid (Calls Tryz.prog 83 #[.slice (some ⟨g, 0, none⟩) n (n + 9), .slice a2 n c2] w fun e w' => e = .returned (.bool true) ∧ ∃ m, w' = w.drewN m) := HS0
  have H1 : Hid (Hs w g 0 (L ++ marks)) := h1
  clear hn HS0 h1
  go_enter Tryz.func42, Tryz.ntmps42
  go_wp2_with (go_at_call 83; refine HS1.out.mono ?_; rintro e w1 ⟨rfl, hw1⟩)
  have HW1 : Hid (∃ m, w1 = w.drewN m) := hw1
  clear hw1 HS1
  go_loopw [6] (fun i wr => ∃ m : Nat, n ≤ m ∧ m ≤ n + 9 ∧ i = .int .i64 m ∧ wr = w1) (fun i _ => n + 9 - (intOf i).toNat)
  case atStart => exact ⟨n, by omega, by omega, rfl, rfl⟩
  case round =>
    obtain ⟨m, hnm, hm9, rfl, rfl⟩ := hrel
    by_cases hm : m < n + 9
    · obtain ⟨j, hj⟩ : ∃ j : Nat, m = n + j := ⟨m - n, by omega⟩
      have ej : (m : Int) - (n : Int) = (j : Int) := by omega
      have hj9 : j < 9 := by omega
      have HR : Hid (wr.rangeAt g (32 * m) (hcs (mk j))) := (by
        obtain ⟨q, e⟩ := HW1.out
        rw [e]
        have := H1.out m (mk j) (by rw [List.getElem?_append_right (by rw [← HN.out]; omega), ← HN.out, hj, Nat.add_sub_cancel_left]; exact marks_get j hj9)
        rwa [Nat.zero_add] at this : wr.rangeAt g (32 * m) (hcs (mk j)))
      have ix := fun wx => indexH g 0 (n + 9) (n + 9) m wx hm
      have hbu := built_mk j (by omega)
      have HMK : Hid ((mk j).length = 32) := mk_len j
      have eqq := fun wx => eq23 (mk j) (mk j) (mk_len j) (mk_len j) wx
      simp only [decide_true] at eqq
      clear hj
      generalize mk j = x at *
      go_wp2_with (first
        | (refine wpList_build_is rfl 36 _ rfl [(0, .int .u8 160), (1, .int .u8 (j : Int))] (by first | kernel_rfl | simp) (bs x) hbu ?_)
        | (refine wpList_load_mid rfl 36 _ rfl g (32 * m) rfl (hcs x) _ HR.out Tryz.underlying36 rfl (by rw [hcs_len, HMK.out]; exact hsH) ?_; rw [hcs_arr])
        | fail)
      go_roundw
      case rel => exact ⟨m + 1, by omega, by omega, by go_num, by trivial⟩
      case measure => simp [intOf]; omega
    · obtain rfl : m = n + 9 := by omega
      go_wp2
      go_ret
      exact ⟨rfl, HW1.out⟩
end Go.Proofs.YtgiblfhajiakgaaGreatDoor
