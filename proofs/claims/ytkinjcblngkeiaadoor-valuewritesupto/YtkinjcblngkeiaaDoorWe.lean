import Derived.Test.YtkinjcblngkeiaaDoorWd
import Derived.Test.YtkinjcblngkeiaaDoorWg
import Derived.Test.YtkinjcblngkeiaaDoorQf
namespace Go.Proofs.YtkinjcblngkeiaaDoor
open Go.RowKit
set_option linter.unusedVariables false
set_option linter.unusedSimpArgs false

def b8 (f : Nat) : List UInt8 := b4 (f / 4294967296) ++ b4 (f % 4294967296)
variable {p : Nat} {g : Option Nat} {M : List UInt8} {e : Int}
theorem WS.glt {w : World} {T : TypeId} (h : WS w T p g M e) {k : Nat} (hk : g = some k) : k < w.heap.size := by
  obtain ⟨v, h1, h2, h3⟩ := h.ex
  exact (World.ownsRow.lt h2 k (h3.trans hk)).2
theorem wfix_wr (w : World) (hsum : M.length + 64 ≤ 140737488355328) (n : Nat) (hn : n < 4294967296) (v : Int) (hv : v = (n : Int)) (P : List UInt8) (hP : P.length ≤ 50) (wx : World) (hx : Wr w wx 26 p g (wA M e P) e) : Calls Tryd.prog 69 #[.pointer (some ⟨p, 0, none⟩), .int .u32 v] wx fun x w' => x = .returned (.tuple #[]) ∧ Wr w w' 26 p g (wA M e (P ++ b4 n)) e := by
  subst hv
  obtain ⟨g1, ws, fr, nw⟩ := hx
  refine (wfix_any n hn wx ws (by have := wA_len M e P; omega)).mono fun x w' h => ?_
  rw [wA_wA] at h
  exact ⟨h.1, Wr.step fr nw h.2⟩
theorem xfix_wr (w : World) (hsum : M.length + 64 ≤ 140737488355328) (n : Nat) (hn : n < 4294967296) (v : Int) (hv : v = (n : Int)) (P : List UInt8) (hP : P.length ≤ 50) (wx : World) (hx : Wr w wx 28 p g (wA M e P) e) : Calls Tryd.prog 73 #[.pointer (some ⟨p, 0, none⟩), .int .u32 v] wx fun x w' => x = .returned (.tuple #[]) ∧ Wr w w' 28 p g (wA M e (P ++ b4 n)) e := by
  subst hv
  obtain ⟨g1, ws, fr, nw⟩ := hx
  refine (xfix_any n hn wx ws (by have := wA_len M e P; omega)).mono fun x w' h => ?_
  rw [wA_wA] at h
  exact ⟨h.1, Wr.step fr nw h.2⟩
set_option maxRecDepth 100000 in
set_option maxHeartbeats 1000000 in
theorem wfloat_any (f : Nat) (hf : f < 18446744073709551616) (hfin : finB f = true) (w : World) (hw : WS w 26 p g M e) (hsum : M.length + 64 ≤ 140737488355328) :
    Calls Tryd.prog 31 #[.pointer (some ⟨p, 0, none⟩), .float .f64 f] w fun x w' => x = .returned (.tuple #[]) ∧ Wr w w' 26 p g (wA M e (b8 f)) e := by
  have HFX := Hid.mk' (fun (n : Nat) (hn : n < 4294967296) (v : Int) (hv : v = (n : Int)) (P : List UInt8) (hP : P.length ≤ 50) (wx : World) hx => wfix_wr (p := p) (g := g) (M := M) (e := e) w hsum n hn v hv P hP wx hx)
  have h0 : Hid (Wr w w 26 p g (wA M e []) e) := by show Wr _ _ _ _ _ _ _; rw [wA_nil]; exact hw.wr
  have h1 : finN f = true := by unfold finB at hfin; simp at hfin; exact hfin.1
  have h2 : f ≠ 9223372036854775808 := by unfold finB at hfin; simp at hfin; exact hfin.2
  have HF := Hid.mk' (fun (wx : World) => fin_any f wx hf)
  rw [h1] at HF
  have hff : ffin f := by unfold finN at h1; unfold ffin; simp at h1; omega
  clear hw hsum hfin h1
  by_cases hz : f = 0
  · subst hz
    have z : (FloatKind.f64.format.order 0 0 == some .eq) = true := by decide +kernel
    go_enter Tryd.func31, Tryd.ntmps31
    go_wp2_with fail
    refine (HF.out _).mono ?_
    rintro x w1 ⟨rfl, hw1⟩
    subst hw1
    go_wp2_with fail
    refine (HFX.out 0 (by decide) _ (by first | rfl | omega) [] (by decide) _ h0.out).mono ?_
    rintro x w2 ⟨rfl, a2⟩
    have A2 := Hid.mk' a2
    clear a2
    go_wp2_with fail
    refine (HFX.out 0 (by decide) _ (by first | rfl | omega) _ (by simp [b4]) _ A2.out).mono ?_
    rintro x w3 ⟨rfl, a3⟩
    have A3 := Hid.mk' a3
    clear a3
    go_wp2
    go_end0
    exact ⟨rfl, A3.out⟩
  · have z : (FloatKind.f64.format.order f 0 == some .eq) = false := by
      have : (FloatKind.f64.format.order f 0 != some .eq) = true := ford_zero f hff (by omega)
      simpa [bne] using this
    go_enter Tryd.func31, Tryd.ntmps31
    go_wp2_with fail
    refine (HF.out _).mono ?_
    rintro x w1 ⟨rfl, hw1⟩
    subst hw1
    go_wp2_with fail
    refine (HFX.out (f / 4294967296) (by omega) _ (by first | rfl | omega | (simp only [IntKind.wrap_u32]; omega)) [] (by decide) _ h0.out).mono ?_
    rintro x w2 ⟨rfl, a2⟩
    have A2 := Hid.mk' a2
    clear a2
    go_wp2_with fail
    refine (HFX.out (f % 4294967296) (by omega) _ (by first | rfl | omega | (simp only [IntKind.wrap_u32]; omega)) _ (by simp [b4]) _ A2.out).mono ?_
    rintro x w3 ⟨rfl, a3⟩
    have A3 := Hid.mk' a3
    clear a3
    go_wp2
    go_end0
    exact ⟨rfl, A3.out⟩
set_option maxRecDepth 100000 in
set_option maxHeartbeats 1000000 in
theorem xfloat_any (f : Nat) (hf : f < 18446744073709551616) (hfin : finB f = true) (w : World) (hw : WS w 28 p g M e) (hsum : M.length + 64 ≤ 140737488355328) :
    Calls Tryd.prog 40 #[.pointer (some ⟨p, 0, none⟩), .float .f64 f] w fun x w' => x = .returned (.tuple #[]) ∧ Wr w w' 28 p g (wA M e (b8 f)) e := by
  have HFX := Hid.mk' (fun (n : Nat) (hn : n < 4294967296) (v : Int) (hv : v = (n : Int)) (P : List UInt8) (hP : P.length ≤ 50) (wx : World) hx => xfix_wr (p := p) (g := g) (M := M) (e := e) w hsum n hn v hv P hP wx hx)
  have h0 : Hid (∀ m, Wr w (w.drewN m) 28 p g (wA M e []) e) := fun m => by rw [wA_nil]; exact hw.wr.post (below_drewN (Below.refl _ _) m)
  have h1 : finN f = true := by unfold finB at hfin; simp at hfin; exact hfin.1
  have h2 : f ≠ 9223372036854775808 := by unfold finB at hfin; simp at hfin; exact hfin.2
  have HF := Hid.mk' (fun (wx : World) => qfin_any f wx)
  rw [h1] at HF
  have hff : ffin f := by unfold finN at h1; unfold ffin; simp at h1; omega
  clear hw hsum hfin h1
  by_cases hz : f = 0
  · subst hz
    have z : (FloatKind.f64.format.order 0 0 == some .eq) = true := by decide +kernel
    go_enter Tryd.func40, Tryd.ntmps40
    go_wp2_with fail
    refine (HF.out _).mono ?_
    rintro x w1 ⟨rfl, m, rfl⟩
    go_wp2_with fail
    refine (HFX.out 0 (by decide) _ (by first | rfl | omega) [] (by decide) _ (h0.out m)).mono ?_
    rintro x w2 ⟨rfl, a2⟩
    have A2 := Hid.mk' a2
    clear a2
    go_wp2_with fail
    refine (HFX.out 0 (by decide) _ (by first | rfl | omega) _ (by simp [b4]) _ A2.out).mono ?_
    rintro x w3 ⟨rfl, a3⟩
    have A3 := Hid.mk' a3
    clear a3
    go_wp2
    exact bodyPost_ret (results_none Tryd.results40 _ _ _) rfl ⟨rfl, A3.out⟩
  · have z : (FloatKind.f64.format.order f 0 == some .eq) = false := by
      have : (FloatKind.f64.format.order f 0 != some .eq) = true := ford_zero f hff (by omega)
      simpa [bne] using this
    go_enter Tryd.func40, Tryd.ntmps40
    go_wp2_with fail
    refine (HF.out _).mono ?_
    rintro x w1 ⟨rfl, m, rfl⟩
    go_wp2_with fail
    refine (HFX.out (f / 4294967296) (by omega) _ (by first | rfl | omega | (simp only [IntKind.wrap_u32]; omega)) [] (by decide) _ (h0.out m)).mono ?_
    rintro x w2 ⟨rfl, a2⟩
    have A2 := Hid.mk' a2
    clear a2
    go_wp2_with fail
    refine (HFX.out (f % 4294967296) (by omega) _ (by first | rfl | omega | (simp only [IntKind.wrap_u32]; omega)) _ (by simp [b4]) _ A2.out).mono ?_
    rintro x w3 ⟨rfl, a3⟩
    have A3 := Hid.mk' a3
    clear a3
    go_wp2
    go_end0
    exact ⟨rfl, A3.out⟩
/-- []byte of a text, as a step of a Writer's world. -/
theorem conv_sep (s : ByteArray) {T : TypeId} (w : World) (hw : WS w T p g M e) : ∃ cap C fr, (convert 9 23 (.string s)).run Tryd.prog w = .ok (.slice (some ⟨w.heap.size, 0, none⟩) s.size cap) (w.drew.alloc (.cells C 5 fr)) ∧ Byt (w.drew.alloc (.cells C 5 fr)) (some ⟨w.heap.size, 0, none⟩) s.data.toList ∧ WS (w.drew.alloc (.cells C 5 fr)) T p g M e ∧ Below w.heap.size w (w.drew.alloc (.cells C 5 fr)) ∧ w.heap.size ≠ p ∧ some w.heap.size ≠ g ∧ w.heap.size < (w.drew.alloc (.cells C 5 fr)).heap.size := by
  obtain ⟨cap, C, fr, h1, h2⟩ := conv_str s w
  have hb : Below w.heap.size w (w.drew.alloc (.cells C 5 fr)) := (below_drewN (Below.refl w.heap.size w) 1).alloc (by show w.heap.size ≤ w.heap.size; omega) _
  have hl : s.data.toList.length = s.size := by simp
  refine ⟨cap, C, fr, h1, .inr ⟨w.heap.size, 0, rfl, fun j hj => ?_⟩, hw.below hb, hb, by have := hw.lt; omega, fun h => by have := hw.glt h.symm; omega, by show w.heap.size < (w.heap.push _).size; simp⟩
  have hg : (w.drew.alloc (.cells C 5 fr)).heap[w.heap.size]? = some (.cells C 5 fr) := by
    show (w.heap.push (.cells C 5 fr))[w.heap.size]? = _
    simp
  rw [Nat.zero_add, cell_of_row _ w.heap.size j C 5 fr hg]
  exact h2 j (by omega)
set_option maxRecDepth 100000 in
set_option maxHeartbeats 1000000 in
theorem wtext_any (s : ByteArray) (hs : s.size ≤ 1000000) (hv : Lib.validD s.data.toList = true) (w : World) (hw : WS w 26 p g M e) (hT : Tabs w) (hsum : M.length + 64 + s.size ≤ 140737488355328) :
    Calls Tryd.prog 32 #[.pointer (some ⟨p, 0, none⟩), .string s] w fun x w' => x = .returned (.tuple #[]) ∧ Wr w w' 26 p g (wA M e (vint s.size ++ s.data.toList)) e := by
  have HV := Hid.mk' (V.valid_any s w (by omega) hT)
  rw [hv] at HV
  have hl : s.data.toList.length = s.size := by simp
  have HW := Hid.mk' hw
  clear hw hT hv
  go_enter Tryd.func32, Tryd.ntmps32
  go_wp2_with fail
  refine HV.out.mono ?_
  rintro x w1 ⟨rfl, b1⟩
  obtain ⟨cap, C, fr, hcv, hby, ws, hbl, n1, n2, n3⟩ := conv_sep s w1 (HW.out.below b1)
  have H := Hid.mk' ((wraw_any s.data.toList (some ⟨w1.heap.size, 0, none⟩) s.size cap _ ws hl hby (fun ad h => by cases h; exact ⟨n1, n2⟩) (fun ad h => by cases h; exact n3) (by rw [hl]; exact hsum)).mono fun x w' h => And.intro h.1 (Wr.pre b1 (Wr.pre hbl h.2)))
  clear b1 hby ws hbl n1 n2 n3 HW HV hl
  go_wp2_with fail
  refine H.out.mono ?_
  rintro x w2 ⟨rfl, a2⟩
  have A2 := Hid.mk' a2
  clear a2 hcv
  go_wp2
  go_end0
  exact ⟨rfl, A2.out⟩
set_option maxRecDepth 100000 in
set_option maxHeartbeats 1000000 in
theorem xtext_any (s : ByteArray) (hs : s.size ≤ 1000000) (hv : Lib.validD s.data.toList = true) (w : World) (hw : WS w 28 p g M e) (hsum : M.length + 64 + s.size ≤ 140737488355328) :
    Calls Tryd.prog 41 #[.pointer (some ⟨p, 0, none⟩), .string s] w fun x w' => x = .returned (.tuple #[]) ∧ Wr w w' 28 p g (wA M e (vint s.size ++ s.data.toList)) e := by
  have HV := Hid.mk' (wrong_any s w (by omega))
  have hl : s.data.toList.length = s.size := by simp
  have hgd : good s.data.toList = s.size := by unfold good; rw [good_valid _ _ (Nat.le_refl _) hv, hl]
  rw [hgd] at HV
  have hlt : ¬ (s.size : Int) < (s.size : Int) := by omega
  obtain ⟨cap, C, fr, hcv, hby, ws, hbl, n1, n2, n3⟩ := conv_sep s w hw
  have H := Hid.mk' ((xraw_any s.data.toList w.heap.size 0 s.size cap _ ws hl hby ⟨n1, n2⟩ n3 (by rw [hl]; exact hsum)).mono fun x w' h => And.intro h.1 (Wr.pre hbl h.2))
  clear hby ws hbl n1 n2 n3 hw hl hgd hv
  go_enter Tryd.func41, Tryd.ntmps41
  go_wp2_with fail
  refine HV.out.mono ?_
  rintro x w1 ⟨rfl, hw1⟩
  subst hw1
  go_wp2_with fail
  refine H.out.mono ?_
  rintro x w2 ⟨rfl, a2⟩
  have A2 := Hid.mk' a2
  clear a2 hcv
  go_wp2
  go_end0
  exact ⟨rfl, A2.out⟩
end Go.Proofs.YtkinjcblngkeiaaDoor
