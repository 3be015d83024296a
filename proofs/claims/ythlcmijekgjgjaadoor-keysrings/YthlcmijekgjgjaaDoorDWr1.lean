import Derived.Test.YthlcmijekgjgjaaDoorDWr
namespace Go.Proofs.YthlcmijekgjgjaaDoor
open Go.RowKit
set_option linter.unusedVariables false
set_option linter.unusedSimpArgs false

theorem rep_add {g : Nat} {m l : List UInt8} {W : World} {bl : List UInt8} (hbl : bl.length = 64) (htk : bl.take (m.length % 64) = m.drop (64 * (m.length / 64))) (hl : m.length % 64 + l.length < 64)
    (hg : W.heap[g]? = some (.cells (hc (stN m (m.length / 64)) (bl.take (m.length % 64) ++ (l ++ bl.drop (m.length % 64 + l.length))) ((m ++ l).length : Int)) 56 (0, 0))) : Rep W g (m ++ l) := by
  have hlen : (m ++ l).length = m.length + l.length := by simp
  have e1 : (m ++ l).length / 64 = m.length / 64 := by omega
  have e2 : (m ++ l).length % 64 = m.length % 64 + l.length := by omega
  refine ⟨_, by rw [e1, stN_app m l _ (by omega)]; exact hg, by simp [hbl]; omega, ?_⟩
  have e3 : (bl.take (m.length % 64)).length = m.length % 64 := by simp [hbl]; omega
  rw [e1, e2, List.drop_append_of_le_length (by omega), ← htk, List.take_append, List.take_of_length_le (by omega), e3, show m.length % 64 + l.length - m.length % 64 = l.length by omega, List.take_append_of_le_length (Nat.le_refl _), List.take_length]

theorem start_set {g : Nat} {m l : List UInt8} {w : World} {bl : List UInt8} {s : S8} (hg : w.heap[g]? = some (.cells (hc s bl (m.length : Int)) 56 (0, 0))) (hbl : bl.length = 64) :
    (w.setCell ⟨g, 72, none⟩ (.int .i64 ((m.length : Int) + (l.length : Int)))).heap[g]? = some (.cells (hc s bl ((m ++ l).length : Int)) 56 (0, 0)) := by
  rw [heap_setCell_same w g 72 _ 56 _ hg, hc_setLen _ _ _ _ hbl]
  simp

theorem slice54 (g u : Nat) (h : 0 < u) (h2 : u < 64) (w : World) : (Instr.sliceAt 54 (.pointer (some ⟨g, 8, none⟩)) (some (.int .i64 (u : Int))) none none).run Tryd.prog w = .ok (.slice (some ⟨g, 8 + u, none⟩) (64 - u) (64 - u)) w := by
  have hi : (Tryd.prog.info? 5).map (·.size) = some 1 := hsz5
  have ha : Tryd.prog.arrayLen 54 = 64 := by kernel_rfl
  have he : Tryd.prog.elem 54 = 5 := by kernel_rfl
  rw [run_sliceAt_array_l w 54 ⟨g, 8, none⟩ (by rw [ha, he]; exact Tryd.underlying54) .i64 (u : Int) (by omega) (by rw [ha]; omega), he, ha]
  cases hq : Tryd.prog.info? 5 with
  | none => rw [hq] at hi; simp at hi
  | some i =>
    rw [hq] at hi
    simp at hi
    simp only [sizeOf, typeInfo, Sem.run_bind, hq]
    simp [hq, hi, slicedAt, Addr.add_mid, show ¬ 64 = u by omega]

set_option maxRecDepth 100000 in
set_option maxHeartbeats 4000000 in
theorem write_u1 (g : Nat) (m l : List UInt8) (a : Option Addr) (cap : Nat) (w : World) (hr : Rep w g m) (hb : Byt w a l) (hbg : ∀ b off, a = some ⟨b, off, none⟩ → b ≠ g) (hK : KeysAt w) (hg4 : g ≠ 3)
    (hm : m.length ≤ 1152921504606846976) (hl : l.length ≤ 1152921504606846976) (hcap : l.length ≤ cap) (hu : 0 < m.length % 64) (h0 : 0 < l.length) (h1 : m.length % 64 + l.length < 64) :
    Calls Tryd.prog 12 #[.pointer (some ⟨g, 0, none⟩), .slice a l.length cap] w fun e w' => e = .returned (.tuple #[]) ∧ Rep w' g (m ++ l) ∧ But g w w' := by
  obtain ⟨bl, hg, hbl, htk⟩ := hr
  have q72 := (cell_of_row w g 72 _ _ _ hg).trans (hc_len _ bl _ hbl)
  have f72 := frozen_of_row w g 72 _ _ hg
  have hgs := start_set (l := l) hg hbl
  have hb1 : But g w (w.setCell ⟨g, 72, none⟩ (.int .i64 ((m.length : Int) + (l.length : Int)))) := (But.refl _ _).setCell 72 _
  rcases hb with h | ⟨b', off', rfl, hcell⟩
  · rw [h] at h0; simp at h0
  have hnb := hbg b' off' rfl
  have hsrc : Hid (∀ j v, (byC l)[j]? = some v → (w.setCell ⟨g, 72, none⟩ (.int .i64 ((m.length : Int) + (l.length : Int)))).cell? ((⟨b', off', none⟩ : Addr).add j) = some v) := fun j v hj => by
    obtain ⟨h1, rfl⟩ := byC_get _ j v hj
    rw [Addr.add_mid, hb1.cell (p := ⟨b', off' + j, none⟩) (block_lt_of_cell (hcell j h1)) hnb]
    exact hcell j h1
  have hfit : Hid (8 + m.length % 64 + (byC l).length ≤ (hc (stN m (m.length / 64)) bl ((m ++ l).length : Int)).size) := by
    show _ ≤ _
    rw [hc_size _ _ _ hbl, byC_len]; omega
  have HL : Hid ((byC l).length = Nat.min l.length (64 - m.length % 64)) := by
    show _ = _
    rw [byC_len]; exact (Nat.min_eq_left (by omega)).symm
  have hsp := hc_splice (stN m (m.length / 64)) bl ((m ++ l).length : Int) (m.length % 64) l hbl (by omega)
  have R := rep_add (W := (w.setCell ⟨g, 72, none⟩ (.int .i64 ((m.length : Int) + (l.length : Int)))).setRow g (hc (stN m (m.length / 64)) (bl.take (m.length % 64) ++ (l ++ bl.drop (m.length % 64 + l.length))) ((m ++ l).length : Int))) hbl htk h1 (setRow_heap _ _ _ _ _ _ hgs)
  have B := hb1.setRow (hc (stN m (m.length / 64)) (bl.take (m.length % 64) ++ (l ++ bl.drop (m.length % 64 + l.length))) ((m ++ l).length : Int))
  rw [← hsp] at R B
  have RH : Hid (_ ∧ _) := And.intro R B
  have lbc := byC_len l
  have LBC : Hid ((byC l).length = l.length) := lbc
  clear R B hsp lbc htk
  obtain ⟨u, hu'⟩ : ∃ u, u = m.length % 64 := ⟨_, rfl⟩
  have eu : (m.length : Int) % 64 = (u : Int) := by omega
  rw [← hu'] at hu h1 hfit HL RH
  have hul : u < 64 := by omega
  have hsl := fun wx => slice54 g u hu hul wx
  clear hu' hgs
  have hgs := start_set (l := l) hg hbl
  go_enter Tryd.func12, Tryd.ntmps12
  go_wp2_with (refine wpList_copy_own rfl (.tmp 28) (.tmp 29) 45 45 rfl 5 Tryd.underlying45 hsz5 g (8 + u) (64 - u) (64 - u) ⟨b', off', none⟩ l.length cap rfl rfl (hc (stN m (m.length / 64)) bl ((m ++ l).length : Int)) 56 hgs (byC l) HL.out hsrc.out hfit.out (byC_one _) ?_; rw [LBC.out])
  have RF := RH.out
  rw [LBC.out] at RF
  have ec : ((m.length : Int) + (l.length : Int)) = (((m ++ l).length : Nat) : Int) := by simp
  rw [ec] at RF ⊢
  exact bodyPost_ret (v := .tuple #[]) (by simp [results, Tryd.results12]) rfl ⟨rfl, RF.1, RF.2⟩

set_option maxRecDepth 100000 in
set_option maxHeartbeats 4000000 in
theorem write_u1e (g : Nat) (m : List UInt8) (a : Option Addr) (cap : Nat) (w : World) (hr : Rep w g m) (hm : m.length ≤ 1152921504606846976) (hu : 0 < m.length % 64) :
    Calls Tryd.prog 12 #[.pointer (some ⟨g, 0, none⟩), .slice a 0 cap] w fun e w' => e = .returned (.tuple #[]) ∧ Rep w' g (m ++ []) ∧ But g w w' := by
  obtain ⟨bl, hg, hbl, htk⟩ := hr
  have q72 := (cell_of_row w g 72 _ _ _ hg).trans (hc_len _ bl _ hbl)
  have f72 := frozen_of_row w g 72 _ _ hg
  have R : Rep (w.setCell ⟨g, 72, none⟩ (.int .i64 (m.length : Int))) g (m ++ []) := by
    rw [List.append_nil]
    exact ⟨bl, by rw [heap_setCell_same w g 72 _ 56 _ hg, hc_setLen _ _ _ _ hbl], hbl, htk⟩
  have B : But g w (w.setCell ⟨g, 72, none⟩ (.int .i64 (m.length : Int))) := (But.refl _ _).setCell 72 _
  have RH : Hid (_ ∧ _) := And.intro R B
  clear R B
  obtain ⟨u, hu'⟩ : ∃ u, u = m.length % 64 := ⟨_, rfl⟩
  have eu : (m.length : Int) % 64 = (u : Int) := by omega
  rw [← hu'] at hu
  have hul : u < 64 := by omega
  have hsl := fun wx => slice54 g u hu hul wx
  clear hu'
  have HM : Hid (Nat.min 0 (64 - u) = 0) := Nat.zero_min _
  go_enter Tryd.func12, Tryd.ntmps12
  go_wp2_with (refine wpList_copy_nothing rfl (.tmp 28) (.tmp 29) 45 45 rfl 5 Tryd.underlying45 hsz5 _ _ (64 - u) (64 - u) 0 cap rfl rfl HM.out ?_)
  have RF := RH.out
  exact bodyPost_ret (v := .tuple #[]) (by simp [results, Tryd.results12]) rfl ⟨rfl, RF.1, RF.2⟩
end Go.Proofs.YthlcmijekgjgjaaDoor
