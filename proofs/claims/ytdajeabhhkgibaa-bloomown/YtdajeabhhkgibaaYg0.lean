import Derived.Test.YtdajeabhhkgibaaYf
import Derived.Test.YtdajeabhhkgibaaVs
namespace Go.Proofs.Ytdajeabhhkgibaa
open Go.RowKit
set_option linter.unusedVariables false
set_option linter.unusedSimpArgs false

/-- A filter that came back. -/
def OkPost (bits p : Nat) (ws : Nat → Nat) (W : World) (e : Ending) (w' : World) : Prop := ∃ q g, e = .returned (.tuple #[.pointer (some ⟨q, 0, none⟩), .int .i64 0, .int .i64 0]) ∧ FAt W.heap.size w' q g bits p ws ∧ Below W.heap.size W w'
theorem dec_back (pb pc bits p : Nat) (ws : Nat → Nat) (W : World) (hy : K.Byt W (some ⟨pb, 0, none⟩) (encF bits p ws)) (hu : okB bits = true) (hp : 1 ≤ p ∧ p ≤ 16) (hW : Within ws bits) (hlt : ∀ i, ws i < 18446744073709551616) :
    Calls Try.prog 29 #[.slice (some ⟨pb, 0, none⟩) (encF bits p ws).length pc] W (OkPost bits p ws W) := by
  have hb := of_decide_eq_true hu
  obtain ⟨e0, e1, e2, e3⟩ := dec_enc (L := encF bits p ws) (R := bytesW ws (bits / 8)) hu hp (bytesW_len _ _) rfl
  refine (decode_any (some ⟨pb, 0, none⟩) pc (encF bits p ws) W (by have := encF_len bits p ws hb.2.1; omega) (fun h => by cases h) hy).mono ?_
  rintro e w' ⟨be, ⟨h1, _⟩ | ⟨h1, q, g, v, hv, rfl, f⟩⟩
  · exact absurd e0 h1
  · rw [e2] at hv
    obtain rfl : p = v := by omega
    rw [e1, e3, ldF_bytesW (by rw [show 8 * (bits / 8) = bits by omega]; exact hW) hlt] at f
    exact ⟨q, g, rfl, f, be⟩
/-- What is taken of any bytes is written so. -/
def TkPost (B : List UInt8) (W : World) (e : Ending) (w' : World) : Prop := ∃ q, e = .returned (.tuple #[.pointer (some ⟨q, 0, none⟩), .int .i64 0, .int .i64 0]) ∧ Below W.heap.size W w' ∧ Calls Try.prog 34 #[.pointer (some ⟨q, 0, none⟩)] w' (EnPost B w')
theorem dec_no (a0 : Option Addr) (cap : Nat) (B : List UInt8) (W : World) (hl : B.length ≤ 140737488351232) (ha : a0 = none → cap = 0) (hb : K.Byt W a0 B) (hE : ¬ K.doneE B (d4 B) = 0) : Calls Try.prog 29 #[.slice a0 B.length cap] W fun e w' => e = .returned (.tuple #[.pointer none, .int .i64 (K.doneE B (d4 B)), .int .i64 (K.doneP B (d4 B))]) ∧ Below W.heap.size W w' := by
  refine (decode_any a0 cap B W hl ha hb).mono ?_
  rintro e w' ⟨be, ⟨h1, rfl⟩ | ⟨h1, _⟩⟩
  · exact ⟨rfl, be⟩
  · exact absurd h1 hE
theorem dec_take (a0 : Option Addr) (cap : Nat) (B : List UInt8) (W : World) (hl : B.length ≤ 140737488351232) (ha : a0 = none → cap = 0) (hb : K.Byt W a0 B) (hE : K.doneE B (d4 B) = 0) : Calls Try.prog 29 #[.slice a0 B.length cap] W (TkPost B W) := by
  refine (decode_any a0 cap B W hl ha hb).mono ?_
  rintro e w' ⟨be, ⟨h1, rfl⟩ | ⟨h1, q, g, v, hv, rfl, f⟩⟩
  · exact absurd hE h1
  · obtain ⟨o1, o2, o3, v', hv', hB⟩ := dec_ok h1
    obtain rfl : v = v' := by omega
    have hb1 := of_decide_eq_true o1
    have hb2 := of_decide_eq_true o2
    have hE : encF (dU B) v (ldF (dR B) (dU B / 8)) = B := by
      unfold encF
      rw [bytesW_ldF _ _ o3]
      exact hB.symm
    have := enc_post q g (dU B) v _ w' f.fw (ldF_lt _ _) hb1.1 hb1.2.1 (by omega)
    rw [hE] at this
    exact ⟨q, rfl, be, this⟩
theorem okB_ofB (n : Nat) : okB (ofB n) = true := by
  unfold okB ofB
  exact decide_eq_true (by omega)
theorem load30 (w : World) (b : Nat) (h : List UInt8) (hl : h.length = 32) (hr : w.rangeAt b 0 (hcs h)) : (Instr.loadAt 30 (.pointer (some ⟨b, 0, none⟩))).run Try.prog w = .ok (.agg (bs h)) w := loadH w b 0 h hl hr
def spI {b : Nat} (l : List (Fin b)) (k : Nat) : Int := match l[k]? with | some x => (x.val : Int) | none => 0
theorem row_ints {b : Nat} {l : List (Fin b)} {W : World} {a : Option Addr} (h : RowOn W a (l.map spV)) {n : Nat} (hn : l.length = n) : ∀ W2, Below W.heap.size W W2 → ∀ k, k < n → ∃ b, a = some ⟨b, 0, none⟩ ∧ W2.cell? ⟨b, k, none⟩ = some (.int .i64 (spI l k)) := fun W2 h2 k hk => by
  have e : l[k]? = some (l[k]'(by omega)) := List.getElem?_eq_getElem _
  obtain ⟨bb, e1, e2⟩ := h W2 h2 k (spV (l[k]'(by omega))) (by rw [List.getElem?_map, e]; rfl)
  refine ⟨bb, e1, ?_⟩
  rw [e2]
  unfold spI spV
  rw [e]
end Go.Proofs.Ytdajeabhhkgibaa
