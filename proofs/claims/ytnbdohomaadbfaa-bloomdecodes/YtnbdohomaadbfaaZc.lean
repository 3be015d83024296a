import Derived.Test.YtnbdohomaadbfaaZb
namespace Go.Proofs.Ytnbdohomaadbfaa
open Go.RowKit
set_option linter.unusedVariables false
set_option linter.unusedSimpArgs false

/-- The document's Writer that was made since. -/
def WH (w W : World) (M : List UInt8) : Prop := K.Wr (w.alloc (.cells #[.slice none 0 0, .int .i64 0] 133)) W 133 w.heap.size none M 0
theorem WH.start (w : World) : WH w (w.alloc (.cells #[.slice none 0 0, .int .i64 0] 133)) [] :=
  K.WS.wr ⟨⟨_, heap_alloc_new _ _, K.ownB_nil _ _, rfl⟩, by simp⟩
theorem WH.below {w W : World} {M : List UInt8} (h : WH w W M) : Below w.heap.size w W := by
  obtain ⟨g', ws, fr, nw⟩ := h
  have b : Below w.heap.size w (w.alloc (.cells #[.slice none 0 0, .int .i64 0] 133)) := (Below.refl _ _).alloc (Nat.le_refl _) _
  exact b.trans ⟨fr.os, fr.tape, fr.output, fr.size, fun k hk => fr.block k (by simp; omega) (by omega) (by simp)⟩
theorem WH.uint {w W : World} {M : List UInt8} (h : WH w W M) (v : Nat) (hv : v < 18446744073709551616) (hM : M.length ≤ 1000000) :
    Calls Try.prog 101 #[.pointer (some ⟨w.heap.size, 0, none⟩), .int .u64 (v : Int)] W fun x w' => x = .returned (.tuple #[]) ∧ WH w w' (M ++ K.vint v) := by
  obtain ⟨g', ws, fr, nw⟩ := h
  refine (K.xuint_any v hv W ws (by omega)).mono ?_
  rintro e W' ⟨rfl, hr⟩
  rw [K.wA_0] at hr
  exact ⟨rfl, K.Wr.step fr nw hr⟩
theorem WH.byte {w W : World} {M : List UInt8} (h : WH w W M) (k : UInt8) (kv : Int) (hk : kv = (k.toNat : Int)) (hM : M.length ≤ 1000000) :
    Calls Try.prog 102 #[.pointer (some ⟨w.heap.size, 0, none⟩), .int .u8 kv] W fun x w' => x = .returned (.tuple #[]) ∧ WH w w' (M ++ [k]) := by
  obtain ⟨g', ws, fr, nw⟩ := h
  refine (K.xbyte_any k kv hk W ws (by omega)).mono ?_
  rintro e W' ⟨rfl, hr⟩
  rw [K.wA_0] at hr
  exact ⟨rfl, K.Wr.step fr nw hr⟩
theorem WH.raw {w W : World} {M B : List UInt8} (h : WH w W M) (b n c : Nat) (hn : B.length = n) (hB : K.Byt W (some ⟨b, 0, none⟩) B) (h1 : b < w.heap.size) (hM : M.length ≤ 1000000) (hBl : B.length ≤ 1000000) :
    Calls Try.prog 103 #[.pointer (some ⟨w.heap.size, 0, none⟩), .slice (some ⟨b, 0, none⟩) n c] W fun x w' => x = .returned (.tuple #[]) ∧ WH w w' (M ++ (K.vint n ++ B)) := by
  obtain ⟨g', ws, fr, nw⟩ := h
  have hlt := fr.size
  rw [World.size_alloc] at hlt
  refine (K.xraw_any B b 0 n c W ws hn hB ⟨by omega, fun e => ?_⟩ (by omega) (by omega)).mono ?_
  · rcases nw with rfl | ⟨k, rfl, hk⟩
    · cases e
    · cases e
      rw [World.size_alloc] at hk
      omega
  · rintro e W' ⟨rfl, hr⟩
    rw [K.wA_0] at hr
    exact ⟨rfl, K.Wr.step fr nw hr⟩
end Go.Proofs.Ytnbdohomaadbfaa
