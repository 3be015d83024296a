import Derived.Test.YthfbolmfkilkjaaGh
namespace Go.Proofs.Ythfbolmfkilkjaa
open Go.RowKit
set_option linter.unusedVariables false
set_option linter.unusedSimpArgs false

theorem OwnH.weak {w : World} {B B' : Nat} {v : Value} {L : List (List UInt8)} (h : OwnH w B v L) (hB : B' ≤ B) : OwnH w B' v L := by
  refine ⟨h.1, h.2.1, ?_⟩
  rcases h.2.2 with hn | ⟨g, cap, cur, e, hbg, rest⟩
  · exact .inl hn
  · exact .inr ⟨g, cap, cur, e, by omega, rest⟩
theorem OwnE.weak {w : World} {B B' : Nat} {v : Value} {L : List EdV} (h : OwnE w B v L) (hB : B' ≤ B) : OwnE w B' v L := by
  refine ⟨h.1, h.2.1, ?_⟩
  rcases h.2.2 with hn | ⟨g, cap, cur, e, hbg, rest⟩
  · exact .inl hn
  · exact .inr ⟨g, cap, cur, e, by omega, rest⟩
theorem OwnH.keep {w w' : World} {base : Nat} {v : Value} {L : List (List UInt8)} (h : OwnH w base v L) (hb : ∀ g, v.ownBlock = some g → w'.heap[g]? = w.heap[g]?) : OwnH w' base v L := by
  refine ⟨h.1, h.2.1, ?_⟩
  rcases h.2.2 with hn | ⟨g, cap, cur, rfl, hbg, hg, rest⟩
  · exact .inl hn
  · exact .inr ⟨g, cap, cur, rfl, hbg, by rw [hb g rfl]; exact hg, rest⟩
theorem OwnE.keep {w w' : World} {base : Nat} {v : Value} {L : List EdV} (h : OwnE w base v L) (hb : ∀ g, v.ownBlock = some g → w'.heap[g]? = w.heap[g]?) : OwnE w' base v L := by
  refine ⟨h.1, h.2.1, ?_⟩
  rcases h.2.2 with hn | ⟨g, cap, cur, rfl, hbg, hg, rest⟩
  · exact .inl hn
  · exact .inr ⟨g, cap, cur, rfl, hbg, by rw [hb g rfl]; exact hg, rest⟩
def uz : Array Value := #[.slice none 0 0, .int .i64 0, .int .i64 0, .int .i64 0, .string ⟨#[]⟩, .slice none 0 0]
theorem below_setR (B : Nat) (w : World) (g : Nat) (cs : Array Value) (h : B ≤ g) : Below B w (w.setRow g cs) := ⟨rfl, rfl, rfl, by simp [World.setRow], fun k hk => setRow_other w g k cs (by omega)⟩
theorem hs25 : (Try.prog.info? 25).map (·.size) = some 6 := by kernel_rfl
theorem hz25 (w : World) : (zeroValue 25).run Try.prog w = .ok (.agg uz) w := (zero_of_info (n := 6) (by kernel_rfl)).1 w
theorem res5 (tmps : Array Value) (w : World) (g : Nat) (t : TypeId) (c : Array Value) (hc : c.size = 6) (fr : Nat × Nat) (hp : tmps.getD 2 undef = .pointer (some ⟨g, 0, none⟩)) (hg : w.heap[g]? = some (.cells c t fr)) :
    (results Try.f5 tmps).run Try.prog w = .ok (.agg c) w :=
  results_cell_row Try.results5 tmps w g t c fr _ hp hg Try.underlying25 rfl (by rw [hc]; exact hs25)
set_option maxRecDepth 100000 in
set_option maxHeartbeats 2000000 in
theorem copy_any (u : UpV) (ap ae : Addr) (hp : u.pa = some ap) (he : u.ea = some ae) (w : World) (hu : u.ok w) :
    Calls Try.prog 5 #[.agg u.c] w fun e w' => ∃ gp cp ge ce, e = .returned (.agg #[.slice (some ⟨gp, 0, none⟩) u.P.length cp, .int .i64 u.au, .int .i64 u.sq, .int .i64 u.tm, .string u.nt, .slice (some ⟨ge, 0, none⟩) u.E.length ce]) ∧
      OwnH w' w.heap.size (.slice (some ⟨gp, 0, none⟩) u.P.length cp) u.P ∧ OwnE w' w.heap.size (.slice (some ⟨ge, 0, none⟩) u.E.length ce) u.E ∧ gp ≠ ge ∧ Below w.heap.size w w' := by
  obtain ⟨pa, pc, P, au, sq, tm, nt, ea, ec, E⟩ := u
  simp only [UpV.c] at *
  subst hp he
  have bx : Below w.heap.size w ((w.alloc (.cells #[.slice (some ap) P.length pc, .int .i64 au, .int .i64 sq, .int .i64 tm, .string nt, .slice (some ae) E.length ec] 25)).alloc (.cells uz 25)) := bel_box2 _ _ _ _ _
  have g1 : ((w.alloc (.cells #[.slice (some ap) P.length pc, .int .i64 au, .int .i64 sq, .int .i64 tm, .string nt, .slice (some ae) E.length ec] 25)).alloc (.cells uz 25)).heap[w.heap.size]? = some (.cells #[.slice (some ap) P.length pc, .int .i64 au, .int .i64 sq, .int .i64 tm, .string nt, .slice (some ae) E.length ec] 25 (0, 0)) := heap_alloc2_old _ _ _
  have g2 : ((w.alloc (.cells #[.slice (some ap) P.length pc, .int .i64 au, .int .i64 sq, .int .i64 tm, .string nt, .slice (some ae) E.length ec] 25)).alloc (.cells uz 25)).heap[w.heap.size + 1]? = some (.cells uz 25 (0, 0)) := heap_alloc2_new _ _ _
  have hz : ((w.alloc (.cells #[.slice (some ap) P.length pc, .int .i64 au, .int .i64 sq, .int .i64 tm, .string nt, .slice (some ae) E.length ec] 25)).alloc (.cells uz 25)).heap.size = w.heap.size + 2 := by simp
  have hu2 := hu.below bx
  go_enter Try.func5, Try.ntmps5
  go_upto_region 1 with (first | (refine wpList_alloc_row rfl 25 rfl uz (hz25 _) ?_))
  generalize ((w.alloc (.cells #[.slice (some ap) P.length pc, .int .i64 au, .int .i64 sq, .int .i64 tm, .string nt, .slice (some ae) E.length ec] 25)).alloc (.cells uz 25)) = W2 at *
  obtain ⟨a0, a1, a2, a3, a4, a5⟩ := cells6 g1
  go_wp2_with fail
  refine (cloneH_any ap P pc W2 hu2.p32 (by have := hu2.pn; simp only at this; omega) hu2.pl).mono ?_
  rintro e w3 ⟨gp, cp, rfl, own3, b3⟩
  have g13 := (b3.block _ (by omega : w.heap.size < W2.heap.size)).trans g1
  have g23 := (b3.block _ (by omega : w.heap.size + 1 < W2.heap.size)).trans g2
  have z3 := b3.size
  have gpl : W2.heap.size ≤ gp ∧ gp < w3.heap.size := World.ownsRow.lt own3.2 gp rfl
  clear g1 g2 a0 a1 a2 a3 a4 a5
  obtain ⟨a0, a1, a2, a3, a4, a5⟩ := cells6 g13
  have f0 := frozen_of_row w3 w.heap.size 0 _ _ g13
  have h13 : (w3.setCell ⟨w.heap.size, 0, none⟩ (.slice (some ⟨gp, 0, none⟩) P.length cp)).heap[w.heap.size]? = some (.cells #[.slice (some ⟨gp, 0, none⟩) P.length cp, .int .i64 au, .int .i64 sq, .int .i64 tm, .string nt, .slice (some ae) E.length ec] 25 (0, 0)) := heap_setCell_same _ _ 0 _ 25 _ g13
  have h23 : (w3.setCell ⟨w.heap.size, 0, none⟩ (.slice (some ⟨gp, 0, none⟩) P.length cp)).heap[w.heap.size + 1]? = some (.cells uz 25 (0, 0)) := (Below.heap_setCell _ _ _ _ (by show w.heap.size + 1 ≠ w.heap.size; omega)).trans g23
  have o3 : OwnH (w3.setCell ⟨w.heap.size, 0, none⟩ (.slice (some ⟨gp, 0, none⟩) P.length cp)) W2.heap.size (.slice (some ⟨gp, 0, none⟩) P.length cp) P := own3.keep fun g hg => Below.heap_setCell _ _ _ _ (by cases hg; show gp ≠ w.heap.size; omega)
  have b3w : Below w.heap.size w (w3.setCell ⟨w.heap.size, 0, none⟩ (.slice (some ⟨gp, 0, none⟩) P.length cp)) := (bx.trans (b3.mono (by omega))).setCell (p := ⟨w.heap.size, 0, none⟩) (Nat.le_refl _) _
  have el3 := hu.el.below hu.eo b3w
  have eo := hu.eo
  have en := hu.en
  simp only at el3 eo en
  clear g13 g23 hu2 hu own3 bx b3
  go_upto_region 2 with fail
  have hz4 : (w3.setCell ⟨w.heap.size, 0, none⟩ (.slice (some ⟨gp, 0, none⟩) P.length cp)).heap.size = w3.heap.size := by simp [World.setCell]
  generalize (w3.setCell ⟨w.heap.size, 0, none⟩ (.slice (some ⟨gp, 0, none⟩) P.length cp)) = W4 at *
  clear a0 a1 a2 a3 a4 a5 f0
  obtain ⟨a0, a1, a2, a3, a4, a5⟩ := cells6 h13
  go_wp2_with fail
  refine (cloneE_any ae E ec W4 eo en el3).mono ?_
  rintro e w5 ⟨ge, ce, rfl, own5, b5⟩
  have h15 := (b5.block _ (by omega : w.heap.size < W4.heap.size)).trans h13
  have h25 := (b5.block _ (by omega : w.heap.size + 1 < W4.heap.size)).trans h23
  have z5 := b5.size
  have gel : W4.heap.size ≤ ge ∧ ge < w5.heap.size := World.ownsRow.lt own5.2 ge rfl
  have o5 := o3.below b5
  have b5w := b3w.trans (b5.mono (by omega))
  clear a0 a1 a2 a3 a4 a5 h13 h23 o3 b3w b5
  obtain ⟨a0, a1, a2, a3, a4, a5⟩ := cells6 h15
  have f5 := frozen_of_row w5 w.heap.size 5 _ _ h15
  have h16 : (w5.setCell ⟨w.heap.size, 5, none⟩ (.slice (some ⟨ge, 0, none⟩) E.length ce)).heap[w.heap.size]? = some (.cells #[.slice (some ⟨gp, 0, none⟩) P.length cp, .int .i64 au, .int .i64 sq, .int .i64 tm, .string nt, .slice (some ⟨ge, 0, none⟩) E.length ce] 25 (0, 0)) := heap_setCell_same _ _ 5 _ 25 _ h15
  have h26 : (w5.setCell ⟨w.heap.size, 5, none⟩ (.slice (some ⟨ge, 0, none⟩) E.length ce)).heap[w.heap.size + 1]? = some (.cells uz 25 (0, 0)) := (Below.heap_setCell _ _ _ _ (by show w.heap.size + 1 ≠ w.heap.size; omega)).trans h25
  have o6 : OwnH (w5.setCell ⟨w.heap.size, 5, none⟩ (.slice (some ⟨ge, 0, none⟩) E.length ce)) W2.heap.size (.slice (some ⟨gp, 0, none⟩) P.length cp) P := o5.keep fun g hg => Below.heap_setCell _ _ _ _ (by cases hg; show gp ≠ w.heap.size; omega)
  have p6 : OwnE (w5.setCell ⟨w.heap.size, 5, none⟩ (.slice (some ⟨ge, 0, none⟩) E.length ce)) W4.heap.size (.slice (some ⟨ge, 0, none⟩) E.length ce) E := own5.keep fun g hg => Below.heap_setCell _ _ _ _ (by cases hg; show ge ≠ w.heap.size; omega)
  have b6w : Below w.heap.size w (w5.setCell ⟨w.heap.size, 5, none⟩ (.slice (some ⟨ge, 0, none⟩) E.length ce)) := b5w.setCell (p := ⟨w.heap.size, 5, none⟩) (Nat.le_refl _) _
  clear h15 h25 own5 o5 b5w
  go_upto_region 3 with fail
  generalize (w5.setCell ⟨w.heap.size, 5, none⟩ (.slice (some ⟨ge, 0, none⟩) E.length ce)) = W6 at *
  clear a0 a1 a2 a3 a4 a5 f5
  obtain ⟨a0, a1, a2, a3, a4, a5⟩ := cells6 h16
  have ONE : Hid ((#[.slice (some ⟨gp, 0, none⟩) P.length cp, .int .i64 au, .int .i64 sq, .int .i64 tm, .string nt, .slice (some ⟨ge, 0, none⟩) E.length ce] : Array Value).all (·.oneCell') = true) := by show _ = _; simp [Value.oneCell']
  go_wp2_with (first | (refine wpList_store_row rfl 25 (.tmp 2) (.tmp 11) rfl (w.heap.size + 1) #[.slice (some ⟨gp, 0, none⟩) P.length cp, .int .i64 au, .int .i64 sq, .int .i64 tm, .string nt, .slice (some ⟨ge, 0, none⟩) E.length ce] rfl rfl 25 uz h26 hs25 rfl ONE.out ?_))
  refine bodyPost_ret (res5 _ _ (w.heap.size + 1) 25 _ rfl (0, 0) rfl (setRow_heap _ _ _ _ _ _ h26)) rfl ⟨gp, cp, ge, ce, rfl, ?_, ?_, by omega, b6w.trans (below_setR _ _ _ _ (by omega))⟩
  · exact (o6.keep fun g hg => setRow_other _ _ _ _ (by cases hg; show gp ≠ w.heap.size + 1; omega)).weak (by omega)
  · exact (p6.keep fun g hg => setRow_other _ _ _ _ (by cases hg; show ge ≠ w.heap.size + 1; omega)).weak (by omega)
end Go.Proofs.Ythfbolmfkilkjaa
