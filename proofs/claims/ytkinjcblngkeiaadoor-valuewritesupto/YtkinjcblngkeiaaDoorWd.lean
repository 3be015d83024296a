import Derived.Test.YtkinjcblngkeiaaDoorWc
import Derived.Laws.BytesArg
import Derived.Laws.IdiomStrings
namespace Go.Proofs.YtkinjcblngkeiaaDoor
open Go.RowKit
set_option linter.unusedVariables false
set_option linter.unusedSimpArgs false

theorem conv_str (s : ByteArray) (w : World) : ∃ cap C fr, (convert 9 23 (.string s)).run Tryd.prog w = .ok (.slice (some ⟨w.heap.size, 0, none⟩) s.size cap) (w.drew.alloc (.cells C 5 fr)) ∧ ∀ j, j < s.size → C[j]? = some (.int .u8 (at8 s.data.toList j)) := by
  refine ⟨_, _, _, run_bytes_of_string w 9 23 5 s Tryd.underlying9 Tryd.underlying23 Tryd.underlying5, fun j hj => ?_⟩
  unfold bytesRow
  have hj' : j < s.data.size := hj
  rw [Array.getElem?_append_left (by simpa using hj')]
  simp only [at8, Array.getElem?_map]
  rw [List.getD_eq_getElem?_getD, Array.getElem?_toList, Array.getElem?_eq_getElem hj']
  rfl
theorem FrW.byt {p : Nat} {g : Option Nat} {w w' : World} (h : FrW p g w w') {a : Option Addr} {l : List UInt8} (hp : ∀ ad, a = some ad → ad.block ≠ p ∧ some ad.block ≠ g) (hb : Byt w a l) : Byt w' a l := by
  rcases hb with rfl | ⟨b, off, rfl, hc⟩
  · exact .inl rfl
  · refine .inr ⟨b, off, rfl, fun j hj => ?_⟩
    have hcj := hc j hj
    have hlt := block_lt_of_cell hcj
    obtain ⟨h1, h2⟩ := hp _ rfl
    have e : w'.cell? ⟨b, off + j, none⟩ = w.cell? ⟨b, off + j, none⟩ := by
      unfold World.cell?
      rw [h.block b hlt h1 h2]
    rw [e, hcj]
variable {p : Nat} {g : Option Nat} {M : List UInt8} {e : Int}
theorem sep_nw {a : Option Addr} {w w' : World} {l : List UInt8} {p : Nat} {g g1 : Option Nat} (hp : ∀ ad, a = some ad → ad.block ≠ p ∧ some ad.block ≠ g) (hlt : ∀ ad, a = some ad → ad.block < w.heap.size) (nw : Nw g g1 w.heap.size) : ∀ ad, a = some ad → ad.block ≠ p ∧ some ad.block ≠ g1 := fun ad e => ⟨(hp ad e).1, by
  rcases nw with h | ⟨k, h, hk⟩
  · rw [h]; exact (hp ad e).2
  · rw [h]; intro h2; have := hlt ad e; cases h2; omega⟩
set_option maxRecDepth 100000 in
set_option maxHeartbeats 1000000 in
theorem wraw_any (B : List UInt8) (a : Option Addr) (len cap : Nat) (w : World) (hw : WS w 26 p g M e) (hlen : B.length = len) (hb : Byt w a B) (hp : ∀ ad, a = some ad → ad.block ≠ p ∧ some ad.block ≠ g) (hlt : ∀ ad, a = some ad → ad.block < w.heap.size) (hsum : M.length + 64 + B.length ≤ 140737488355328) :
    Calls Tryd.prog 33 #[.pointer (some ⟨p, 0, none⟩), .slice a len cap] w fun x w' => x = .returned (.tuple #[]) ∧ Wr w w' 26 p g (wA M e (vint len ++ B)) e := by
  have h10 := vint_10 len (by omega)
  have H1 := Hid.mk' (wuint_any len (by omega) w hw (by omega))
  have H2 : Hid (∀ wx, Wr w wx 26 p g (wA M e (vint len)) e → Calls Tryd.prog 67 #[.pointer (some ⟨p, 0, none⟩), .slice a len cap] wx fun x w' => x = .returned (.tuple #[]) ∧ Wr w w' 26 p g (wA M e (vint len ++ B)) e) := fun wx hx => by
    obtain ⟨g1, ws, fr, nw⟩ := hx
    refine (add_any B a len cap wx ws hlen (fr.byt hp hb) (by have := wA_len M e (vint len); omega)).mono fun x w' h => ?_
    rw [wA_wA] at h
    exact ⟨h.1, Wr.step fr nw h.2⟩
  have hl2 : (len : Int) < 18446744073709551616 := by omega
  clear hw hb hp hlt
  go_enter Tryd.func33, Tryd.ntmps33
  go_wp2_with fail
  refine H1.out.mono ?_
  rintro x w1 ⟨rfl, a1⟩
  have A1 := Hid.mk' a1
  clear a1
  go_wp2_with fail
  refine (H2.out _ A1.out).mono ?_
  rintro x w2 ⟨rfl, a2⟩
  have A2 := Hid.mk' a2
  clear a2
  go_wp2
  go_end0
  exact ⟨rfl, A2.out⟩
set_option maxRecDepth 100000 in
set_option maxHeartbeats 1000000 in
theorem xraw_any (B : List UInt8) (b off len cap : Nat) (w : World) (hw : WS w 28 p g M e) (hlen : B.length = len) (hb : Byt w (some ⟨b, off, none⟩) B) (hp : b ≠ p ∧ some b ≠ g) (hlt : b < w.heap.size) (hsum : M.length + 64 + B.length ≤ 140737488355328) :
    Calls Tryd.prog 42 #[.pointer (some ⟨p, 0, none⟩), .slice (some ⟨b, off, none⟩) len cap] w fun x w' => x = .returned (.tuple #[]) ∧ Wr w w' 28 p g (wA M e (vint len ++ B)) e := by
  have h10 := vint_10 len (by omega)
  have H1 := Hid.mk' (xuint_any len (by omega) w hw (by omega))
  have HP : Hid (∀ wx (P : List UInt8) (k : UInt8) (kv : Int), P.length ≤ 10 + len → kv = (k.toNat : Int) → Wr w wx 28 p g (wA M e P) e → Calls Tryd.prog 71 #[.pointer (some ⟨p, 0, none⟩), .int .u8 kv] wx fun x w' => x = .returned (.tuple #[]) ∧ Wr w w' 28 p g (wA M e (P ++ [k])) e) := fun wx P k kv hP hk hx => by
    obtain ⟨g1, ws, fr, nw⟩ := hx
    refine (put_any k kv hk wx ws (by have := wA_len M e P; omega)).mono fun x w' h => ?_
    rw [wA_wA] at h
    exact And.intro h.1 (Wr.step fr nw h.2)
  have HB : Hid (∀ wx (P : List UInt8), Wr w wx 28 p g (wA M e P) e → ∀ j, j < len → wx.cell? ⟨b, off + j, none⟩ = some (.int .u8 ((B.getD j 0).toNat : Int))) := fun wx P hx j hj => by
    obtain ⟨g1, ws, fr, nw⟩ := hx
    rcases fr.byt (fun ad e => by cases e; exact hp) hb with e | ⟨b', off', e, hc⟩
    · rw [e] at hlen; simp at hlen; omega
    · cases e
      exact hc j (by omega)
  have hl2 : (len : Int) < 18446744073709551616 := by omega
  have hlb : len ≤ 140737488355328 := by omega
  clear hw hb hp hlt hsum
  go_enter Tryd.func42, Tryd.ntmps42
  go_wp2_with fail
  refine H1.out.mono ?_
  rintro x w1 ⟨rfl, a1⟩
  have A1 := Hid.mk' a1
  clear a1
  go_wp2
  go_loopw [4] (fun i wr => ∃ j : Nat, i = .int .i64 (j : Int) ∧ j ≤ len ∧ Hid (Wr w wr 28 p g (wA M e (vint len ++ B.take j)) e)) (fun i _ => len - (intOf i).toNat)
  case atStart => exact ⟨0, rfl, by omega, by show Wr _ _ _ _ _ _ _; rw [List.take_zero, List.append_nil]; exact A1.out⟩
  case round =>
    clear A1 H1
    obtain ⟨j, rfl, hj, HW⟩ := hrel
    by_cases hjl : j < len
    · have hjl' : (j : Int) < (len : Int) := by omega
      have cc := HB.out _ _ HW.out j hjl
      have H := Hid.mk' (HP.out wr _ (B.getD j 0) _ (by rw [List.length_append, List.length_take]; omega) rfl HW.out)
      rw [List.append_assoc, show B.take j ++ [B.getD j 0] = B.take (j + 1) by rw [List.take_succ_eq_append_getElem (by omega)]; simp [List.getElem?_eq_getElem (show j < B.length by omega)]] at H
      generalize B.getD j 0 = bn at *
      clear HW
      go_wp2_with fail
      refine H.out.mono ?_
      rintro x w2 ⟨rfl, a2⟩
      have A2 := Hid.mk' a2
      clear a2
      go_wp2
      exact ⟨⟨j + 1, by go_num, by omega, A2⟩, by simp [intOf]; omega⟩
    · have hjl' : ¬ (j : Int) < (len : Int) := by omega
      obtain rfl : j = len := by omega
      have HW2 : Hid (Wr w wr 28 p g (wA M e (vint j ++ B)) e) := by
        have := HW.out
        rw [List.take_of_length_le (by omega)] at this
        exact this
      clear HW
      go_wp2
      go_end0
      exact ⟨rfl, HW2.out⟩
end Go.Proofs.YtkinjcblngkeiaaDoor
