import Derived.Test.YtpmdlhlojifoeaaDoorOwn
namespace Go.Proofs.YtpmdlhlojifoeaaDoor
open Go.RowKit
set_option linter.unusedVariables false
set_option linter.unusedSimpArgs false

theorem rep_below {w w' : World} {g : Nat} {m : List UInt8} (h : Rep w g m) (hb : Below w.heap.size w w') : Rep w' g m := by
  obtain ⟨bl, hg, h1, h2⟩ := h
  exact ⟨bl, by rw [hb.block g (Array.getElem?_eq_some_iff.1 hg).1]; exact hg, h1, h2⟩
theorem rep_but {w w' : World} {g f : Nat} {m : List UInt8} (h : Rep w g m) (hb : But f w w') (hf : g ≠ f) : Rep w' g m := by
  obtain ⟨bl, hg, h1, h2⟩ := h
  exact ⟨bl, by rw [hb.block g (Array.getElem?_eq_some_iff.1 hg).1 hf]; exact hg, h1, h2⟩
theorem rep_lt {w : World} {g : Nat} {m : List UInt8} (h : Rep w g m) : g < w.heap.size := by
  obtain ⟨bl, hg, _⟩ := h
  exact (Array.getElem?_eq_some_iff.1 hg).1

set_option maxRecDepth 100000 in
set_option maxHeartbeats 4000000 in
theorem write_u0e (g : Nat) (m : List UInt8) (a : Option Addr) (cap : Nat) (w : World) (hr : Rep w g m) (hm : m.length ≤ 1152921504606846976) (hu : m.length % 64 = 0) :
    Calls Tryd.prog 21 #[.pointer (some ⟨g, 0, none⟩), .slice a 0 cap] w fun e w' => e = .returned (.tuple #[]) ∧ Rep w' g (m ++ []) ∧ But g w w' := by
  obtain ⟨bl, hg, hbl, htk⟩ := hr
  have q72 := (cell_of_row w g 72 _ _ _ hg).trans (hc_len _ bl _ hbl)
  have f72 := frozen_of_row w g 72 _ _ hg
  have R : Rep (w.setCell ⟨g, 72, none⟩ (.int .i64 (m.length : Int))) g (m ++ []) := by
    rw [List.append_nil]
    exact ⟨bl, by rw [heap_setCell_same w g 72 _ 62 _ hg, hc_setLen _ _ _ _ hbl], hbl, htk⟩
  have B : But g w (w.setCell ⟨g, 72, none⟩ (.int .i64 (m.length : Int))) := (But.refl _ _).setCell 72 _
  have RH : Hid (_ ∧ _) := And.intro R B
  clear R B
  have hu2 : (m.length : Int) % 64 = 0 := by omega
  have HM : Hid (Nat.min 0 64 = 0) := rfl
  go_enter Tryd.func21, Tryd.ntmps21
  go_wp2
  refine wp_loop_rounds 1 ?_
  rw [rounds_succ]
  go_wp2_with (refine wpList_copy_nothing rfl (.tmp 68) (.tmp 69) 26 26 rfl 5 Tryd.underlying26 hsz5 _ _ 64 64 0 cap rfl rfl HM.out ?_)
  have RF := RH.out
  go_end0
  exact ⟨rfl, by simpa using RF.1, RF.2⟩

/-- Write, of a slice that may lie anywhere if it is empty. -/
theorem write_free (g : Nat) (m l : List UInt8) (a : Option Addr) (len cap : Nat) (w : World) (hlen : l.length = len) (hr : Rep w g m) (hb : Byt w a l) (hbg : 0 < l.length → ∀ b off, a = some ⟨b, off, none⟩ → b ≠ g) (hK : KeysAt w) (hg4 : g ≠ 4)
    (hm : m.length ≤ 1152921504606846976) (hl : l.length ≤ 1152921504606846976) (hcap : l.length ≤ cap) :
    Calls Tryd.prog 21 #[.pointer (some ⟨g, 0, none⟩), .slice a len cap] w fun e w' => e = .returned (.tuple #[]) ∧ Rep w' g (m ++ l) ∧ But g w w' := by
  by_cases h0 : 0 < l.length
  · exact write_any g m l a len cap w hlen hr hb (hbg h0) hK hg4 hm hl hcap
  · obtain rfl : l = [] := List.eq_nil_of_length_eq_zero (by omega)
    subst hlen
    by_cases hu : m.length % 64 = 0
    · exact write_u0e g m a cap w hr hm hu
    · exact write_u1e g m a cap w hr hm (by omega)

set_option maxRecDepth 100000 in
set_option maxHeartbeats 2000000 in
theorem fork_any (g : Nat) (m : List UInt8) (w : World) (hr : Rep w g m) :
    Calls Tryd.prog 25 #[.pointer (some ⟨g, 0, none⟩)] w fun e w' => e = .returned (.pointer (some ⟨w.heap.size, 0, none⟩)) ∧ Rep w' w.heap.size m ∧ Below w.heap.size w w' ∧ w.heap.size < w'.heap.size := by
  obtain ⟨bl, hg, hbl, htk⟩ := hr
  have S73 := hc_size (stN m (m.length / 64)) bl (m.length : Int) hbl
  have I1 : Hid ((Tryd.prog.info? 62).map (·.size) = some (hc (stN m (m.length / 64)) bl (m.length : Int)).size) := by show _ = _; rw [S73]; exact hs62
  have I2 : Hid ((hc s0 z64 0).size = (hc (stN m (m.length / 64)) bl (m.length : Int)).size) := by show _ = _; rw [S73]; exact hc0_size
  have I3 : Hid ((hc (stN m (m.length / 64)) bl (m.length : Int)).all (·.oneCell') = true) := hc_one _ _ _
  clear S73
  have R : Hid (Rep (w.alloc (.cells (hc (stN m (m.length / 64)) bl (m.length : Int)) 62)) w.heap.size m) := ⟨bl, heap_alloc_new _ _, hbl, htk⟩
  have B : Hid (Below w.heap.size w (w.alloc (.cells (hc (stN m (m.length / 64)) bl (m.length : Int)) 62))) := (Below.refl _ _).alloc (Nat.le_refl _) _
  clear htk
  go_enter Tryd.func25, Tryd.ntmps25
  go_wp2_with (first | (refine wpList_load_arr rfl 62 (.tmp 7) rfl g rfl 62 (hc (stN m (m.length / 64)) bl (m.length : Int)) (0, 0) _ hg Tryd.underlying62 rfl I1.out ?_) | (refine wpList_alloc_row rfl 62 rfl (hc s0 z64 0) (hz62 _) ?_) | (refine wpList_store_row rfl 62 (.tmp 3) (.tmp 8) rfl w.heap.size (hc (stN m (m.length / 64)) bl (m.length : Int)) rfl rfl 62 (hc s0 z64 0) (heap_alloc_new _ _) I1.out I2.out I3.out ?_; rw [World.setRow_alloc_new]))
  go_ret
  exact ⟨rfl, R.out, B.out, by simp⟩
theorem len_any (g : Nat) (m : List UInt8) (w : World) (hr : Rep w g m) :
    Calls Tryd.prog 23 #[.pointer (some ⟨g, 0, none⟩)] w fun e w' => e = .returned (.int .i64 (m.length : Int)) ∧ w' = w := by
  obtain ⟨bl, hg, hbl, htk⟩ := hr
  have q72 := (cell_of_row w g 72 _ _ _ hg).trans (hc_len _ bl _ hbl)
  go_enter Tryd.func23, Tryd.ntmps23
  go_wp2
  go_ret
  exact ⟨rfl, rfl⟩
end Go.Proofs.YtpmdlhlojifoeaaDoor
