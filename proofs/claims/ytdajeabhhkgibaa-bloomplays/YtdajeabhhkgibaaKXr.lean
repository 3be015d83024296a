import Derived.Test.YtdajeabhhkgibaaKWc
import Derived.Test.YtdajeabhhkgibaaKWd
namespace Go.Proofs.Ytdajeabhhkgibaa.K
open Go.RowKit
set_option linter.unusedVariables false
set_option linter.unusedSimpArgs false

variable {p : Nat} {g : Option Nat} {M : List UInt8} {e : Int}
set_option maxRecDepth 100000 in
set_option maxHeartbeats 1000000 in
theorem xraw_any (B : List UInt8) (b off len cap : Nat) (w : World) (hw : WS w 133 p g M e) (hlen : B.length = len) (hb : Byt w (some ⟨b, off, none⟩) B) (hp : b ≠ p ∧ some b ≠ g) (hlt : b < w.heap.size) (hsum : M.length + 64 + B.length ≤ 140737488355328) :
    Calls Try.prog 103 #[.pointer (some ⟨p, 0, none⟩), .slice (some ⟨b, off, none⟩) len cap] w fun x w' => x = .returned (.tuple #[]) ∧ Wr w w' 133 p g (wA M e (vint len ++ B)) e := by
  have h10 := vint_10 len (by omega)
  have H1 := Hid.mk' (xuint_any len (by omega) w hw (by omega))
  have HP : Hid (∀ wx (P : List UInt8) (k : UInt8) (kv : Int), P.length ≤ 10 + len → kv = (k.toNat : Int) → Wr w wx 133 p g (wA M e P) e → Calls Try.prog 121 #[.pointer (some ⟨p, 0, none⟩), .int .u8 kv] wx fun x w' => x = .returned (.tuple #[]) ∧ Wr w w' 133 p g (wA M e (P ++ [k])) e) := fun wx P k kv hP hk hx => by
    obtain ⟨g1, ws, fr, nw⟩ := hx
    refine (put_any k kv hk wx ws (by have := wA_len M e P; omega)).mono fun x w' h => ?_
    rw [wA_wA] at h
    exact And.intro h.1 (Wr.step fr nw h.2)
  have HB : Hid (∀ wx (P : List UInt8), Wr w wx 133 p g (wA M e P) e → ∀ j, j < len → wx.cell? ⟨b, off + j, none⟩ = some (.int .u8 ((B.getD j 0).toNat : Int))) := fun wx P hx j hj => by
    obtain ⟨g1, ws, fr, nw⟩ := hx
    rcases fr.byt (fun ad e => by cases e; exact hp) hb with e | ⟨b', off', e, hc⟩
    · rw [e] at hlen; simp at hlen; omega
    · cases e
      exact hc j (by omega)
  have hl2 : (len : Int) < 18446744073709551616 := by omega
  have hlb : len ≤ 140737488355328 := by omega
  clear hw hb hp hlt hsum
  go_enter Try.func103, Try.ntmps103
  go_wp2_with fail
  refine H1.out.mono ?_
  rintro x w1 ⟨rfl, a1⟩
  have A1 := Hid.mk' a1
  clear a1
  go_wp2
  go_loopw [4] (fun i wr => ∃ j : Nat, i = .int .i64 (j : Int) ∧ j ≤ len ∧ Hid (Wr w wr 133 p g (wA M e (vint len ++ B.take j)) e)) (fun i _ => len - (intOf i).toNat)
  case atStart => exact ⟨0, rfl, by omega, by show Wr _ _ _ _ _ _ _; rw [List.take_zero, List.append_nil]; exact A1.out⟩
  case round =>
    clear A1 H1
    obtain ⟨j, rfl, hj, HW⟩ := hrel
    by_cases hjl : j < len
    · have hjl' : (j : Int) < (len : Int) := by omega
      have cc := HB.out _ _ HW.out j hjl
      have H := Hid.mk' (HP.out wr _ (B.getD j 0) _ (by rw [List.length_append, List.length_take]; omega) rfl HW.out)
      rw [List.append_assoc, show B.take j ++ [B.getD j 0] = B.take (j + 1) by rw [List.take_succ_eq_append_getElem (by omega)]; simp [List.getElem?_eq_getElem (show j < B.length by omega)]] at H
      generalize B.getD j 0 = bn at *
      clear HW
      go_wp2_with fail
      refine H.out.mono ?_
      rintro x w2 ⟨rfl, a2⟩
      have A2 := Hid.mk' a2
      clear a2
      go_wp2
      exact ⟨⟨j + 1, by go_num, by omega, A2⟩, by simp [intOf]; omega⟩
    · have hjl' : ¬ (j : Int) < (len : Int) := by omega
      obtain rfl : j = len := by omega
      have HW2 : Hid (Wr w wr 133 p g (wA M e (vint j ++ B)) e) := by
        have := HW.out
        rw [List.take_of_length_le (by omega)] at this
        exact this
      clear HW
      go_wp2
      go_end0
      exact ⟨rfl, HW2.out⟩
set_option maxRecDepth 100000 in
set_option maxHeartbeats 1000000 in
theorem xraw_nil (a : Option Addr) (cap : Nat) (w : World) (hw : WS w 133 p g M e) (hsum : M.length + 64 ≤ 140737488355328) :
    Calls Try.prog 103 #[.pointer (some ⟨p, 0, none⟩), .slice a 0 cap] w fun x w' => x = .returned (.tuple #[]) ∧ Wr w w' 133 p g (wA M e (vint 0)) e := by
  have H1 := Hid.mk' (xuint_any 0 (by omega) w hw (by omega))
  clear hw hsum
  go_enter Try.func103, Try.ntmps103
  go_wp2_with fail
  refine H1.out.mono ?_
  rintro x w1 ⟨rfl, a1⟩
  have A1 := Hid.mk' a1
  clear a1
  go_wp2
  go_loopw [4] (fun i wr => i = .int .i64 0 ∧ wr = w1) (fun i _ => 0)
  case atStart => exact ⟨rfl, rfl⟩
  case round =>
    clear H1
    obtain ⟨rfl, rfl⟩ := hrel
    go_wp2
    go_end0
    exact ⟨rfl, A1.out⟩
theorem xraw_all (B : List UInt8) (a : Option Addr) (len cap : Nat) (w : World) (hw : WS w 133 p g M e) (hlen : B.length = len) (hb : Byt w a B) (hp : ∀ ad, a = some ad → ad.block ≠ p ∧ some ad.block ≠ g) (hlt : ∀ ad, a = some ad → ad.block < w.heap.size) (hsum : M.length + 64 + B.length ≤ 140737488355328) :
    Calls Try.prog 103 #[.pointer (some ⟨p, 0, none⟩), .slice a len cap] w fun x w' => x = .returned (.tuple #[]) ∧ Wr w w' 133 p g (wA M e (vint len ++ B)) e := by
  rcases hb with rfl | ⟨b, off, rfl, hc⟩
  · obtain rfl : len = 0 := hlen.symm
    rw [List.append_nil]
    exact xraw_nil a cap w hw (by omega)
  · exact xraw_any B b off len cap w hw hlen (.inr ⟨b, off, rfl, hc⟩) (hp _ rfl) (hlt _ rfl) hsum
end Go.Proofs.Ytdajeabhhkgibaa.K
