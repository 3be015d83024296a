import Derived.Test.YtdajeabhhkgibaaVf
import Derived.Lib.MinMax
namespace Go.Proofs.Ytdajeabhhkgibaa
open Go.RowKit
set_option linter.unusedVariables false
set_option linter.unusedSimpArgs false

/-- How many bits a filter for n unlike hashes has. -/
def ofB (n : Nat) : Nat := (max 64 (min 65536 (10 * n)) + 7) / 8 * 8
theorem ofB_pos (n : Nat) : 0 < ofB n := by unfold ofB; omega
theorem ofB_le (n : Nat) : ofB n ≤ 65536 := by unfold ofB; omega
/-- What lies in it when some were added. -/
def addL (bits : Nat) (hb : 0 < bits) (probes : Nat) (ws : Nat → Nat) (L : List (List UInt8)) : Nat → Nat := L.foldl (fun v h => setAll v (spotL h bits hb probes)) ws
theorem addL_snoc (bits : Nat) (hb : 0 < bits) (probes : Nat) (ws : Nat → Nat) (L : List (List UInt8)) (h : List UInt8) : addL bits hb probes ws (L ++ [h]) = setAll (addL bits hb probes ws L) (spotL h bits hb probes) := by simp [addL]
theorem addL_lt {bits : Nat} (hb : 0 < bits) (probes : Nat) {ws : Nat → Nat} (h : ∀ i, ws i < 18446744073709551616) (L : List (List UInt8)) : ∀ i, addL bits hb probes ws L i < 18446744073709551616 := by
  induction L generalizing ws with
  | nil => exact h
  | cons x L ih => exact ih (setAll_lt h _)
/-- A filter in memory that was made since. -/
structure FAt (N : Nat) (w : World) (q g bits probes : Nat) (ws : Nat → Nat) : Prop where
  fw : FW w q g bits probes ws
  lq : N ≤ q
  lg : N ≤ g
theorem FAt.below {N : Nat} {w w' : World} {q g bits probes : Nat} {ws : Nat → Nat} (h : FAt N w q g bits probes ws) (hb : Below w.heap.size w w') : FAt N w' q g bits probes ws := ⟨h.fw.below hb, h.lq, h.lg⟩
set_option maxRecDepth 100000 in
set_option maxHeartbeats 4000000 in
theorem of_any (a : Option Addr) (L : List (List UInt8)) (c : Nat) (w : World) (hL : All32 L) (hn : L.length ≤ 4398046511104) (hl : Hl w a L) :
    Calls Try.prog 9 #[.slice a L.length c] w fun e w' => ∃ q g, e = .returned (.pointer (some ⟨q, 0, none⟩)) ∧ FAt w.heap.size w' q g (ofB (uMap L).length) 7 (addL _ (ofB_pos (uMap L).length) 7 (fun _ => 0) L) ∧ Below w.heap.size w w' := by
  have HU := Hid.mk' (unlike_any a L c w hL hn hl)
  have hul := uMap_len L
  have HLL := Hid.mk' (fun wx (h : Below w.heap.size w wx) => hl.below hL h)
  have HAL := Hid.mk' hL
  clear hl hL
  obtain ⟨U, hU⟩ : ∃ U, (uMap L).length = U := ⟨_, rfl⟩
  rw [hU] at HU hul ⊢
  clear hU
  have hb0 := ofB_pos U
  have hb1 := ofB_le U
  have e1 : max 64 (min 65536 (10 * (U : Int))) = ((max 64 (min 65536 (10 * U)) : Nat) : Int) := by omega
  have e2 : (((max 64 (min 65536 (10 * U)) : Nat) : Int) + 8 - 1).tdiv 8 * 8 = (ofB U : Int) := by rw [Int.tdiv_eq_ediv_of_nonneg (by omega)]; unfold ofB; omega
  have e3 : (((max 64 (min 65536 (10 * U)) : Nat) : Int) + 7) / 8 * 8 = (ofB U : Int) := by unfold ofB; omega
  have hbb : max 64 (min 65536 (10 * U)) ≤ 65536 := by omega
  have HE := Hid.mk' (fun W => empty_any (ofB U) 7 W hb1 hb0 (by omega))
  have HAD := Hid.mk' (fun q g ws h W (hl : h.length = 32) (hF : FW W q g (ofB U) 7 ws) (hw : ∀ i, ws i < 18446744073709551616) => add_any q g (ofB U) 7 ws h W hl hb0 hb1 (by omega) hF hw)
  have HLT := Hid.mk' (fun (M : List (List UInt8)) => addL_lt (ws := fun _ => 0) hb0 7 (fun i => by omega) M)
  have HSN := Hid.mk' (fun M h => addL_snoc (ofB U) hb0 7 (fun _ => 0) M h)
  generalize hAA : addL (ofB U) (ofB_pos U) 7 (fun _ => 0) = AA at *
  have HA0 : Hid (AA [] = fun _ => 0) := by rw [← hAA]; rfl
  clear hAA
  generalize max 64 (min 65536 (10 * U)) = b0 at *
  generalize ofB U = bits at *
  go_enter Try.func9, Try.ntmps9
  go_wp2_with (first
    | (go_at_call 39; refine HU.out.mono ?_; rintro e W1 ⟨rfl, b1⟩; have B1 := Hid.mk' b1; clear b1)
    | (go_at_call 40; refine (HE.out _).mono ?_; rintro e W2 ⟨rfl, fc2, wr2, b2, s2⟩; have F2 := Hid.mk' (FW.mk fc2 wr2); have B2 := Hid.mk' (B1.out.trans (b2.mono B1.out.size)); have B1s := Hid.mk' B1.out.size; clear fc2 wr2 b2 s2 B1)
    | fail)
  have H0 : Hid (FW W2 (W1.heap.size + 1) W1.heap.size bits 7 (AA (L.take 0))) := by rw [List.take_zero, HA0.out]; exact F2
  generalize W1.heap.size = g at *
  generalize hnn : L.length = n at *
  have HNN := Hid.mk' hnn
  clear hnn F2 HE e1 e2 e3
  go_loopw [20] (fun i wr => ∃ k : Nat, k ≤ n ∧ i = .int .i64 (k : Int) ∧ Hid (FW wr (g + 1) g bits 7 (AA (L.take k))) ∧ Hid (Below w.heap.size w wr)) (fun i _ => n - (intOf i).toNat)
  case atStart => exact ⟨0, by omega, rfl, H0, B2⟩
  case round =>
    obtain ⟨k, hk, rfl, HF, HW⟩ := hrel
    clear H0 B2
    by_cases hkn : k < n
    · have hkn' : (k : Int) < (n : Int) := by omega
      obtain ⟨b, off, rfl, hs⟩ := (HLL.out wr HW.out).at (i := k) (by rw [HNN.out]; exact hkn)
      obtain ⟨h, hh⟩ : ∃ h, L[k]? = some h := ⟨L[k]'(by rw [HNN.out]; exact hkn), List.getElem?_eq_getElem _⟩
      have HRA := Hid.mk' (hs k h hh)
      have HH := Hid.mk' (HAL.out.get hh)
      have ix := fun wx => indexH b off n c k wx hkn
      have HS : Hid (AA (L.take (k + 1)) = setAll (AA (L.take k)) (spotL h bits hb0 7)) := by show _ = _; rw [List.take_add_one, hh, Option.toList, HSN.out]
      have HBA : Hid (Below wr.heap.size wr (wr.alloc (.cells (bs h) 30))) := (Below.refl _ _).alloc (Nat.le_refl _) _
      have HX : Hid ((wr.alloc (.cells (bs h) 30)).rangeAt wr.heap.size 0 (hcs h)) := range_box wr h 30
      have HC := Hid.mk' (HAD.out (g + 1) g (AA (L.take k)) h (wr.alloc (.cells (bs h) 30)) HH.out (HF.out.below HBA.out) (HLT.out _))
      have HWA := Hid.mk' (HW.out.trans (HBA.out.mono HW.out.size))
      clear hs hh HLL HAL HAD HLT HSN
      go_wp2_with (first
        | (with_reducible refine at_ld ?_; refine wpList_ld (.tmp 22) rfl rfl b (off + 32 * k) rfl h HH.out HRA.out ?_)
        | (with_reducible refine at_al ?_; refine wpList_boxH (.tmp 23) 6 rfl rfl rfl rfl rfl rfl rfl h HH.out rfl rfl ?_)
        | (with_reducible refine at_ld ?_; refine wpList_ld (.tmp 6) rfl rfl wr.heap.size 0 rfl h HH.out HX.out ?_)
        | (go_at_call 12; refine HC.out.mono ?_; rintro e W3 ⟨rfl, f3, k3⟩; have F3 : Hid (FW W3 (g + 1) g bits 7 (AA (L.take (k + 1)))) := (by rw [HS.out]; exact f3); have B3 := Hid.mk' (k3.toBelow HWA.out HWA.out.size B1s.out); clear f3 k3)
        | fail)
      exact ⟨⟨k + 1, by omega, by go_num, F3, B3⟩, by simp [intOf]; omega⟩
    · obtain rfl : k = n := by omega
      have hkn' : ¬ (k : Int) < (k : Int) := by omega
      have HF2 : Hid (FW wr (g + 1) g bits 7 (AA L)) := by have := HF.out; rw [← HNN.out, List.take_length] at this; exact this
      go_wp2
      go_ret
      exact ⟨g + 1, rfl, ⟨g, ⟨HF2.out, by have := B1s.out; omega, B1s.out⟩⟩, HW.out⟩
end Go.Proofs.Ytdajeabhhkgibaa
