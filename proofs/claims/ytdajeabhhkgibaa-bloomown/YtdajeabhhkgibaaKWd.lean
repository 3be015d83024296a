import Derived.Test.YtdajeabhhkgibaaKWb
import Derived.Laws.BytesArg
import Derived.Laws.IdiomStrings
namespace Go.Proofs.Ytdajeabhhkgibaa.K
open Go.RowKit
set_option linter.unusedVariables false
set_option linter.unusedSimpArgs false

theorem conv_str (s : ByteArray) (w : World) : ∃ cap C fr, (convert 9 53 (.string s)).run Try.prog w = .ok (.slice (some ⟨w.heap.size, 0, none⟩) s.size cap) (w.drew.alloc (.cells C 5 fr)) ∧ ∀ j, j < s.size → C[j]? = some (.int .u8 (at8 s.data.toList j)) := by
  refine ⟨_, _, _, run_bytes_of_string w 9 53 5 s Try.underlying9 Try.underlying53 Try.underlying5, fun j hj => ?_⟩
  unfold bytesRow
  have hj' : j < s.data.size := hj
  rw [Array.getElem?_append_left (by simpa using hj')]
  simp only [at8, Array.getElem?_map]
  rw [List.getD_eq_getElem?_getD, Array.getElem?_toList, Array.getElem?_eq_getElem hj']
  rfl
theorem FrW.byt {p : Nat} {g : Option Nat} {w w' : World} (h : FrW p g w w') {a : Option Addr} {l : List UInt8} (hp : ∀ ad, a = some ad → ad.block ≠ p ∧ some ad.block ≠ g) (hb : Byt w a l) : Byt w' a l := by
  rcases hb with rfl | ⟨b, off, rfl, hc⟩
  · exact .inl rfl
  · refine .inr ⟨b, off, rfl, fun j hj => ?_⟩
    have hcj := hc j hj
    have hlt := block_lt_of_cell hcj
    obtain ⟨h1, h2⟩ := hp _ rfl
    have e : w'.cell? ⟨b, off + j, none⟩ = w.cell? ⟨b, off + j, none⟩ := by
      unfold World.cell?
      rw [h.block b hlt h1 h2]
    rw [e, hcj]
variable {p : Nat} {g : Option Nat} {M : List UInt8} {e : Int}
theorem sep_nw {a : Option Addr} {w w' : World} {l : List UInt8} {p : Nat} {g g1 : Option Nat} (hp : ∀ ad, a = some ad → ad.block ≠ p ∧ some ad.block ≠ g) (hlt : ∀ ad, a = some ad → ad.block < w.heap.size) (nw : Nw g g1 w.heap.size) : ∀ ad, a = some ad → ad.block ≠ p ∧ some ad.block ≠ g1 := fun ad e => ⟨(hp ad e).1, by
  rcases nw with h | ⟨k, h, hk⟩
  · rw [h]; exact (hp ad e).2
  · rw [h]; intro h2; have := hlt ad e; cases h2; omega⟩
set_option maxRecDepth 100000 in
set_option maxHeartbeats 1000000 in
theorem wraw_any (B : List UInt8) (a : Option Addr) (len cap : Nat) (w : World) (hw : WS w 119 p g M e) (hlen : B.length = len) (hb : Byt w a B) (hp : ∀ ad, a = some ad → ad.block ≠ p ∧ some ad.block ≠ g) (hlt : ∀ ad, a = some ad → ad.block < w.heap.size) (hsum : M.length + 64 + B.length ≤ 140737488355328) :
    Calls Try.prog 75 #[.pointer (some ⟨p, 0, none⟩), .slice a len cap] w fun x w' => x = .returned (.tuple #[]) ∧ Wr w w' 119 p g (wA M e (vint len ++ B)) e := by
  have h10 := vint_10 len (by omega)
  have H1 := Hid.mk' (wuint_any len (by omega) w hw (by omega))
  have H2 : Hid (∀ wx, Wr w wx 119 p g (wA M e (vint len)) e → Calls Try.prog 119 #[.pointer (some ⟨p, 0, none⟩), .slice a len cap] wx fun x w' => x = .returned (.tuple #[]) ∧ Wr w w' 119 p g (wA M e (vint len ++ B)) e) := fun wx hx => by
    obtain ⟨g1, ws, fr, nw⟩ := hx
    refine (add_any B a len cap wx ws hlen (fr.byt hp hb) (by have := wA_len M e (vint len); omega)).mono fun x w' h => ?_
    rw [wA_wA] at h
    exact ⟨h.1, Wr.step fr nw h.2⟩
  have hl2 : (len : Int) < 18446744073709551616 := by omega
  clear hw hb hp hlt
  go_enter Try.func75, Try.ntmps75
  go_wp2_with fail
  refine H1.out.mono ?_
  rintro x w1 ⟨rfl, a1⟩
  have A1 := Hid.mk' a1
  clear a1
  go_wp2_with fail
  refine (H2.out _ A1.out).mono ?_
  rintro x w2 ⟨rfl, a2⟩
  have A2 := Hid.mk' a2
  clear a2
  go_wp2
  go_end0
  exact ⟨rfl, A2.out⟩
end Go.Proofs.Ytdajeabhhkgibaa.K
