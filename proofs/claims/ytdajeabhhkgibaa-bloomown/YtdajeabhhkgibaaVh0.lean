import Derived.Test.YtdajeabhhkgibaaVg
namespace Go.Proofs.Ytdajeabhhkgibaa
open Go.RowKit
set_option linter.unusedVariables false
set_option linter.unusedSimpArgs false

theorem grown_trans {a b c : World} {row : Option Nat} (h : a.grownBy b row) (k : b.grownBy c row) : a.grownBy c row :=
  ⟨k.os.trans h.os, k.tape.trans h.tape, k.output.trans h.output, Nat.le_trans h.size k.size, fun i hi hr => (k.block i (Nat.lt_of_lt_of_le hi h.size) hr).trans (h.block i hi hr)⟩
theorem grown_refl (a : World) (row : Option Nat) : a.grownBy a row := ⟨rfl, rfl, rfl, Nat.le_refl _, fun _ _ _ => rfl⟩
theorem grown_set' (w : World) (g i : Nat) (v : Value) : w.grownBy (w.setCell ⟨g, i, none⟩ v) (some g) :=
  ⟨rfl, rfl, rfl, by simp, fun k _ hk => Below.heap_setCell _ _ _ _ (fun e => hk (by rw [e]))⟩
def orW (ws wo : Nat → Nat) (k i : Nat) : Nat := if i < k then ws i ||| wo i else ws i
theorem or_lt {a b : Nat} (ha : a < 18446744073709551616) (hb : b < 18446744073709551616) : a ||| b < 18446744073709551616 := Nat.or_lt_two_pow (n := 64) ha hb
theorem orW_lt {ws wo : Nat → Nat} (h1 : ∀ i, ws i < 18446744073709551616) (h2 : ∀ i, wo i < 18446744073709551616) (k i : Nat) : orW ws wo k i < 18446744073709551616 := by
  unfold orW
  split
  · exact or_lt (h1 i) (h2 i)
  · exact h1 i
set_option maxRecDepth 100000 in
set_option maxHeartbeats 4000000 in
theorem joinW_any (g g2 m : Nat) (ws wo : Nat → Nat) (w : World) (h : WR w g m ws) (h2 : WR w g2 m wo) (hne : g ≠ g2) (hw : ∀ i, ws i < 18446744073709551616) (hw2 : ∀ i, wo i < 18446744073709551616) (hm : m ≤ 1024) :
    Calls Try.prog 45 #[.slice (some ⟨g, 0, none⟩) m m, .slice (some ⟨g2, 0, none⟩) m m] w fun e w' => e = .returned (.tuple #[]) ∧ WR w' g m (orW ws wo m) ∧ w.grownBy w' (some g) := by
  have H0 : Hid (WR w g m (orW ws wo 0)) := h.congr (fun i _ => by unfold orW; rw [if_neg (by omega)])
  have HO := Hid.mk' (fun (wx : World) (hg : w.grownBy wx (some g)) => h2.of_block (hg.block g2 h2.lt (fun e => hne (by cases e; rfl))))
  have HW1 := Hid.mk' hw
  have HW2 := Hid.mk' hw2
  clear h h2 hw hw2
  go_enter Try.func45, Try.ntmps45
  go_wp2
  go_loopw [8] (fun i wr => ∃ k : Nat, k ≤ m ∧ i = .int .i64 (k : Int) ∧ Hid (WR wr g m (orW ws wo k)) ∧ Hid (w.grownBy wr (some g))) (fun i _ => m - (intOf i).toNat)
  case atStart => exact ⟨0, by omega, rfl, H0, grown_refl _ _⟩
  case round =>
    obtain ⟨k, hk, rfl, HR, HG⟩ := hrel
    clear H0
    by_cases hkm : k < m
    · have hkm' : (k : Int) < (m : Int) := by omega
      have ix := fun wx => index95 g m m k wx hkm
      have ix2 := fun wx => index95 g2 m m k wx hkm
      have c1 : wr.cell? ⟨g, k, none⟩ = some (.int .u64 (ws k : Int)) := by
        have := HR.out.cell hkm
        rw [this]
        unfold orW
        rw [if_neg (by omega)]
      have c2 : wr.cell? ⟨g2, k, none⟩ = some (.int .u64 (wo k : Int)) := (HO.out wr HG.out).cell hkm
      have f1 : wr.frozen? ⟨g, k, none⟩ = false := HR.out.frozen k
      have ho := Hid.mk' (bits_or_u64_nat (ws k) (wo k) (HW1.out k) (HW2.out k))
      have hor := or_lt (HW1.out k) (HW2.out k)
      have HN : Hid (WR (wr.setCell ⟨g, k, none⟩ (.int .u64 ((ws k ||| wo k : Nat) : Int))) g m (orW ws wo (k + 1))) := (HR.out.set k _).congr (fun i _ => by
        unfold orW
        by_cases e : i = k
        · subst e
          rw [if_pos rfl, if_pos (by omega)]
        · rw [if_neg e]
          by_cases e2 : i < k
          · rw [if_pos e2, if_pos (by omega)]
          · rw [if_neg e2, if_neg (by omega)])
      have HGN : Hid (w.grownBy (wr.setCell ⟨g, k, none⟩ (.int .u64 ((ws k ||| wo k : Nat) : Int))) (some g)) := grown_trans HG.out (grown_set' _ _ _ _)
      rw [← ho.out] at HN HGN
      generalize ws k = x at *
      generalize wo k = y at *
      go_wp2
      exact ⟨⟨k + 1, by omega, by go_num, HN, HGN⟩, by simp [intOf]; omega⟩
    · obtain rfl : k = m := by omega
      have hkm' : ¬ (k : Int) < (k : Int) := by omega
      go_wp2
      go_end0
      exact ⟨rfl, HR.out, HG.out⟩
theorem meth_bits (p : Option Addr) (w : World) : (method 328 23 (.pointer p) "Bits").run Try.prog w = .ok (32, .pointer p) w := by kernel_rfl
theorem meth_probes (p : Option Addr) (w : World) : (method 328 23 (.pointer p) "Probes").run Try.prog w = .ok (53, .pointer p) w := by kernel_rfl
set_option maxRecDepth 100000 in
set_option maxHeartbeats 4000000 in
theorem shape_any (q g b1 p1 q2 g2 b2 p2 : Nat) (w : World) (h : FC w q g b1 p1) (h2 : FC w q2 g2 b2 p2) :
    Calls Try.prog 44 #[.iface 23 (.pointer (some ⟨q, 0, none⟩)), .iface 23 (.pointer (some ⟨q2, 0, none⟩))] w fun e w' => e = .returned (.bool (decide (b1 = b2 ∧ p1 = p2))) ∧ w' = w := by
  have m1 := meth_bits
  have m2 := meth_probes
  have HB1 := Hid.mk' (bits_any q g b1 p1 w h)
  have HB2 := Hid.mk' (bits_any q2 g2 b2 p2 w h2)
  have HP1 := Hid.mk' (probes_any q g b1 p1 w h)
  have HP2 := Hid.mk' (probes_any q2 g2 b2 p2 w h2)
  clear h h2
  by_cases e1 : b1 = b2
  · subst e1
    by_cases e2 : p1 = p2
    · subst e2
      go_enter Try.func44, Try.ntmps44
      go_wp2_with (first
        | (go_at_call 32; refine HB1.out.mono ?_; clear HB1; rintro e W ⟨rfl, hw⟩; obtain rfl := hw.symm)
        | (go_at_call 32; refine HB2.out.mono ?_; clear HB2; rintro e W ⟨rfl, hw⟩; obtain rfl := hw.symm)
        | (go_at_call 53; refine HP1.out.mono ?_; clear HP1; rintro e W ⟨rfl, hw⟩; obtain rfl := hw.symm)
        | (go_at_call 53; refine HP2.out.mono ?_; clear HP2; rintro e W ⟨rfl, hw⟩; obtain rfl := hw.symm)
        | fail)
      go_ret
      exact ⟨by simp, rfl⟩
    · have e2' : ((p1 : Int) == (p2 : Int)) = false := by simp; omega
      have hd : Hid (decide (b1 = b1 ∧ p1 = p2) = false) := by show _ = _; simp [e2]
      clear e2
      go_enter Try.func44, Try.ntmps44
      go_wp2_with (first
        | (go_at_call 32; refine HB1.out.mono ?_; clear HB1; rintro e W ⟨rfl, hw⟩; obtain rfl := hw.symm)
        | (go_at_call 32; refine HB2.out.mono ?_; clear HB2; rintro e W ⟨rfl, hw⟩; obtain rfl := hw.symm)
        | (go_at_call 53; refine HP1.out.mono ?_; clear HP1; rintro e W ⟨rfl, hw⟩; obtain rfl := hw.symm)
        | (go_at_call 53; refine HP2.out.mono ?_; clear HP2; rintro e W ⟨rfl, hw⟩; obtain rfl := hw.symm)
        | fail)
      go_ret
      exact ⟨by rw [hd.out]; rfl, rfl⟩
  · have e1' : ((b1 : Int) == (b2 : Int)) = false := by simp; omega
    have hd : Hid (decide (b1 = b2 ∧ p1 = p2) = false) := by show _ = _; simp [e1]
    clear e1
    go_enter Try.func44, Try.ntmps44
    go_wp2_with (first
      | (go_at_call 32; refine HB1.out.mono ?_; clear HB1; rintro e W ⟨rfl, hw⟩; obtain rfl := hw.symm)
      | (go_at_call 32; refine HB2.out.mono ?_; clear HB2; rintro e W ⟨rfl, hw⟩; obtain rfl := hw.symm)
      | fail)
    go_ret
    exact ⟨by rw [hd.out]; rfl, rfl⟩
end Go.Proofs.Ytdajeabhhkgibaa
