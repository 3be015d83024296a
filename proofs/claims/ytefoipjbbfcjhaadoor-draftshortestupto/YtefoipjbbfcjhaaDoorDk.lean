import Derived.Test.YtefoipjbbfcjhaaDoorDj
namespace Go.Proofs.YtefoipjbbfcjhaaDoor
open Go.RowKit
set_option linter.unusedVariables false
set_option linter.unusedSimpArgs false

/-- The patch at hand is there. -/
def opn (l : List Pat) (at' : Nat) (op : Bool) : List Pat := if op = true then l else l ++ [⟨at', 0, ⟨#[]⟩⟩]
theorem pend_cells (at' : Nat) : (Value.agg #[.int .u8 4, .slice none 0 0, .slice none 0 0, .int .i64 (at' : Int), .int .i64 0, .string ⟨#[]⟩, .slice none 0 0]).cells.toList = pV [⟨at', 0, ⟨#[]⟩⟩] := by simp [pV, patC, Value.cells]
set_option maxRecDepth 100000 in
set_option maxHeartbeats 1000000 in
theorem patch_any (N q : Nat) (w : World) (lv : Value) (l : List Pat) (at' : Nat) (op : Bool) (h : PS w N q lv l at' op) (hl : l.length ≤ 10000) (hl0 : op = true → 0 < l.length) :
    Calls Tryd.prog 25 #[.pointer (some ⟨q, 0, none⟩)] w fun e w' => e = .returned (.int .i64 (((opn l at' op).length : Int) - 1)) ∧ Below N w w' ∧ ∃ lv', PS w' N q lv' (opn l at' op) at' true := by
  have HP := Hid.mk' h
  cases op with
  | true =>
    have e1 : opn l at' true = l := rfl
    rw [e1]
    obtain ⟨a, c, rfl⟩ : ∃ a c, lv = .slice a l.length c := by
      rcases h.own.2 with ⟨e, h0⟩ | ⟨g, cap, _, e, _⟩
      · exact ⟨none, 0, by rw [e, h0]⟩
      · exact ⟨_, _, e⟩
    have c0 := h.c0
    have c2 := h.c2
    generalize hll : l.length = n at *
    have := hl0 rfl
    clear h hl0 e1
    go_enter Tryd.func25, Tryd.ntmps25
    go_wp2
    go_ret
    exact ⟨rfl, Below.refl _ _, _, HP.out⟩
  | false =>
    have e1 : opn l at' false = l ++ [⟨at', 0, ⟨#[]⟩⟩] := rfl
    rw [e1]
    obtain ⟨hbs, v', w', hap, own', gr, hblk⟩ := run_push ei23 23 w.drew (.agg #[.int .u8 4, .slice none 0 0, .slice none 0 0, .int .i64 (at' : Int), .int .i64 0, .string ⟨#[]⟩, .slice none 0 0]) rfl N lv l.length (pV l) h.drew.own (by intro c hc; simp [Value.cells] at hc; rcases hc with rfl | rfl | rfl | rfl | rfl | rfl | rfl <;> rfl) (by unfold maxLen; omega) (by omega) h.bN
    rw [pend_cells, ← pV_app] at own'
    have hlen : (l ++ [(⟨at', 0, ⟨#[]⟩⟩ : Pat)]).length = l.length + 1 := by simp
    rw [← hlen] at own'
    have hsep : v'.ownBlock ≠ some q := by
      rcases hblk with e | ⟨g, e, hg⟩
      · rw [e]; exact h.sep
      · rw [e]; intro e2; injection e2 with e2; have := h.lq; change w.heap.size ≤ g at hg; omega
    obtain ⟨W1, hW1⟩ : ∃ W, W = w.drew.alloc (.cells (Value.agg #[.int .u8 4, .slice none 0 0, .slice none 0 0, .int .i64 (at' : Int), .int .i64 0, .string ⟨#[]⟩, .slice none 0 0]).cells 34) := ⟨_, rfl⟩
    rw [← hW1] at hbs hap gr
    have b1 : Below w.heap.size w W1 := by rw [hW1]; exact (Below.refl _ w).drew.alloc (Nat.le_refl _) _
    have hq1 : W1.heap[q]? = w.heap[q]? := b1.block q h.lq
    have hq2 : w'.heap[q]? = w.heap[q]? := (gr.block q (Nat.lt_of_lt_of_le h.lq b1.size) (fun e => h.sep e.symm)).trans hq1
    have P3 := Hid.mk' ((h.keep hq2 v' (l ++ [⟨at', 0, ⟨#[]⟩⟩]) own' hsep v').set2 true)
    have PK := h.keep hq2 v' (l ++ [⟨at', 0, ⟨#[]⟩⟩]) own' hsep v'
    have k0 := PK.c0
    have k2 := PK.c2
    have kf := PK.fz 2
    clear PK
    have BL : Hid (Below N w ((w'.setCell ⟨q, 0, none⟩ v').setCell ⟨q, 2, none⟩ (.bool true))) := ((((b1.mono h.bN).grown gr (Nat.le_trans h.bN b1.size) (fun k hk => (h.own.lt k hk).1)).setCell (p := ⟨q, 0, none⟩) h.bq _).setCell (p := ⟨q, 2, none⟩) h.bq _)
    have c2 := h.c2
    obtain ⟨va, vc, rfl⟩ : ∃ a c, v' = .slice a (l ++ [(⟨at', 0, ⟨#[]⟩⟩ : Pat)]).length c := by
      rcases own'.2 with ⟨e, h0⟩ | ⟨g, cap, _, e, _⟩
      · exact ⟨none, 0, by rw [e, h0]⟩
      · exact ⟨_, _, e⟩
    rw [hlen] at *
    have HC := Hid.mk' (h.c0)
    have HC1 := Hid.mk' (h.c1)
    have kk0 := P3.out.c0
    have fz0 := (World.frozen?_of_block (w := w) (a := ⟨q, 0, none⟩) hq2).trans (h.fz 0)
    have HX : Hid (∀ wx : World, wx.heap[q]? = w.heap[q]? → wx.cell? ⟨q, 0, none⟩ = some lv ∧ wx.cell? ⟨q, 1, none⟩ = some (.int .i64 (at' : Int))) := fun wx hx => ⟨(World.cell?_of_block (w := w) (a := ⟨q, 0, none⟩) hx).trans HC.out, (World.cell?_of_block (w := w) (a := ⟨q, 1, none⟩) hx).trans HC1.out⟩
    have ST := Hid.mk' (store_23 (a := va) (l := l.length + 1) (c := vc) (HX.out w' hq2).1 fz0)
    have HBS := Hid.mk' hbs
    have HAP := Hid.mk' hap
    have K1 : Hid ((w'.setCell ⟨q, 0, none⟩ (.slice va (l.length + 1) vc)).cell? ⟨q, 1, none⟩ = some (.int .i64 (at' : Int))) := (World.cell?_setCell_other _ _ _ _ (by intro e; cases e)).trans (HX.out w' hq2).2
    clear h hl0 e1 hbs hap own' gr hblk HP hsep hlen b1 HC HC1 fz0 hW1
    generalize hll : l.length = n at *
    have HQ1 := Hid.mk' hq1
    have HQ2 := Hid.mk' hq2
    clear hq1 hq2 hll
    go_enter Tryd.func25, Tryd.ntmps25
    go_wp2
    rename_i K4 aK4
    refine patch2 q lv (.int .i64 (at' : Int)) _ _ (.slice va (n + 1) vc) W1 w' (w'.setCell ⟨q, 0, none⟩ (.slice va (n + 1) vc)) (fun wx => wx.cell? ⟨q, 1, none⟩ = some (.int .i64 (at' : Int))) _ w _ rfl rfl (fun wx hw => load_1 hw) (fun wx => build_pat _ wx) HBS.out (HX.out W1 HQ1.out).2 HAP.out (HX.out w' HQ2.out).2 ST.out K1.out (load_23 (HX.out w.drew rfl).1) (load_23 (HX.out W1 HQ1.out).1) (HX.out w.drew rfl).2 ?_ ?_
    all_goals
      intro a' ha
      subst ha
      refine aK4 _ _ ?_
      clear aK4
      simp only [Act.put, List.setIfInBounds_toArray, List.set_cons_zero, List.set_cons_succ]
      go_wp2
      go_ret
      exact ⟨by simp, BL.out, _, P3.out⟩
end Go.Proofs.YtefoipjbbfcjhaaDoor
