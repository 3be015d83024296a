import Derived.Test.YtdajeabhhkgibaaVh0
namespace Go.Proofs.Ytdajeabhhkgibaa
open Go.RowKit
set_option linter.unusedVariables false
set_option linter.unusedSimpArgs false

set_option maxRecDepth 100000 in
set_option maxHeartbeats 4000000 in
theorem join_any (q g q2 g2 bits probes : Nat) (ws wo : Nat → Nat) (w : World) (h : FW w q g bits probes ws) (h2 : FW w q2 g2 bits probes wo) (hne : g ≠ g2) (hq : q ≠ g) (hq2 : q2 ≠ g) (hw : ∀ i, ws i < 18446744073709551616) (hw2 : ∀ i, wo i < 18446744073709551616) (hb : bits ≤ 65536) :
    Calls Try.prog 14 #[.pointer (some ⟨q, 0, none⟩), .pointer (some ⟨q2, 0, none⟩)] w fun e w' => e = .returned (.int .i64 0) ∧ FW w' q g bits probes (orW ws wo ((bits + 63) / 64)) ∧ w.grownBy w' (some g) := by
  have HS := Hid.mk' (shape_any q g bits probes q2 g2 bits probes w h.fc h2.fc)
  have hdd : decide (bits = bits ∧ probes = probes) = true := by simp
  rw [hdd] at HS
  have HJ := Hid.mk' (joinW_any g g2 ((bits + 63) / 64) ws wo w.drew h.wr h2.wr hne hw hw2 (by omega))
  have HF : Hid (∀ w', w.drew.grownBy w' (some g) → WR w' g ((bits + 63) / 64) (orW ws wo ((bits + 63) / 64)) → FW w' q g bits probes (orW ws wo ((bits + 63) / 64)) ∧ w.grownBy w' (some g)) := fun w' hg hr => ⟨⟨h.fc.of (hg.block q h.fc.lt (fun e => hq (by cases e; rfl))), hr⟩, ⟨hg.os, hg.tape, hg.output, hg.size, hg.block⟩⟩
  have HC : Hid (∀ w', w.drew.grownBy w' (some g) → w'.cell? ⟨q, 2, none⟩ = some (.slice (some ⟨g, 0, none⟩) ((bits + 63) / 64) ((bits + 63) / 64)) ∧ w'.cell? ⟨q2, 2, none⟩ = some (.slice (some ⟨g2, 0, none⟩) ((bits + 63) / 64) ((bits + 63) / 64))) := fun w' hg => ⟨(h.fc.of (hg.block q h.fc.lt (fun e => hq (by cases e; rfl)))).c2, (h2.fc.of (hg.block q2 h2.fc.lt (fun e => hq2 (by cases e; rfl)))).c2⟩
  have c1 := h.fc.c2
  have c2 := h2.fc.c2
  clear h h2 hw hw2 hdd
  generalize (bits + 63) / 64 = m at *
  go_enter Try.func14, Try.ntmps14
  go_wp2_with (first
    | (go_at_call 44; refine HS.out.mono ?_; rintro e W ⟨rfl, hw⟩; obtain rfl := hw.symm)
    | fail)
  go_region_held3 (fun w' => w'.cell? ⟨q, 2, none⟩ = some (.slice (some ⟨g, 0, none⟩) m m) ∧ w'.cell? ⟨q2, 2, none⟩ = some (.slice (some ⟨g2, 0, none⟩) m m)) (first | assumption | go_keep) (first
    | (go_at_call 45; refine HJ.out.mono ?_; rintro e W3 ⟨rfl, wr3, gr3⟩; have HF3 := Hid.mk' (HF.out _ gr3 wr3); obtain ⟨s1, s2⟩ := HC.out _ gr3; clear wr3 gr3)
    | fail)
  all_goals go_wp2
  all_goals (go_ret; exact ⟨rfl, HF3.out.1, HF3.out.2⟩)
end Go.Proofs.Ytdajeabhhkgibaa
