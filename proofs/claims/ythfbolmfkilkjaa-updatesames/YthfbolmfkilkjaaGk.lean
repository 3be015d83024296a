import Derived.Test.YthfbolmfkilkjaaGj
import Derived.Test.YthfbolmfkilkjaaHi
namespace Go.Proofs.Ythfbolmfkilkjaa
open Go.RowKit
set_option linter.unusedVariables false
set_option linter.unusedSimpArgs false

theorem res4 (tmps : Array Value) (w : World) (g : Nat) (t : TypeId) (c : Array Value) (hc : c.size = 6) (fr : Nat × Nat) (hp : tmps.getD 2 undef = .pointer (some ⟨g, 0, none⟩)) (hg : w.heap[g]? = some (.cells c t fr)) :
    (results Try.f4 tmps).run Try.prog w = .ok (.agg c) w :=
  results_cell_row Try.results4 tmps w g t c fr _ hp hg Try.underlying25 rfl (by rw [hc]; exact hs25)
theorem loadU (w : World) (g : Nat) (c : Array Value) (hc : c.size = 6) (fr : Nat × Nat) (t : TypeId) (hg : w.heap[g]? = some (.cells c t fr)) : (Instr.loadAt 25 (.pointer (some ⟨g, 0, none⟩))).run Try.prog w = .ok (.agg c) w := by
  have hr : w.rangeAt g 0 c.toList := fun j v hv => by
    rw [Nat.zero_add, cell_of_row w g j _ _ _ hg]
    simpa using hv
  have := run_loadAt_mid (P := Try.prog) w g 0 25 c.toList _ hr Try.underlying25 rfl (by rw [Array.length_toList, hc]; exact hs25)
  simpa using this
theorem oneU (u : UpV) : u.c.all (·.oneCell') = true := by simp [UpV.c, Value.oneCell']
set_option maxRecDepth 100000 in
set_option maxHeartbeats 2000000 in
theorem lent_any (u : UpV) (w : World) (hu : u.ok w) :
    Calls Try.prog 4 #[.agg u.c] w fun e w' => ∃ gp ge ce, e = .returned (.agg #[.slice (some ⟨gp, 0, none⟩) u.P.length (u.P.length + 9), .int .i64 u.au, .int .i64 u.sq, .int .i64 u.tm, .string u.nt, .slice (some ⟨ge, 0, none⟩) u.E.length ce]) ∧
      Hs w' gp 0 (u.P ++ marks) ∧ OwnE w' w.heap.size (.slice (some ⟨ge, 0, none⟩) (u.E.length + 1) ce) (u.E ++ [e77]) ∧ w.heap.size ≤ gp ∧ gp < w'.heap.size ∧ gp ≠ ge ∧ Below w.heap.size w w' := by
  obtain ⟨pa, pc, P, au, sq, tm, nt, ea, ec, E⟩ := u
  have ONE := oneU ⟨pa, pc, P, au, sq, tm, nt, ea, ec, E⟩
  simp only [UpV.c] at *
  obtain ⟨U, hU⟩ : ∃ U : Array Value, U = #[.slice pa P.length pc, .int .i64 au, .int .i64 sq, .int .i64 tm, .string nt, .slice ea E.length ec] := ⟨_, rfl⟩
  have US : Hid (U.size = 6) := by show _ = _; rw [hU]; rfl
  have HU : Hid (U = #[.slice pa P.length pc, .int .i64 au, .int .i64 sq, .int .i64 tm, .string nt, .slice ea E.length ec]) := hU
  rw [← hU] at ONE ⊢
  have bx : Below w.heap.size w (((w.alloc (.cells U 25)).alloc (.cells uz 25)).alloc (.cells U 25)) := (bel_box2 _ _ _ _ _).alloc (by simp; omega) _
  have bx2 : Below ((w.alloc (.cells U 25)).alloc (.cells uz 25)).heap.size ((w.alloc (.cells U 25)).alloc (.cells uz 25)) (((w.alloc (.cells U 25)).alloc (.cells uz 25)).alloc (.cells U 25)) := (Below.refl _ _).alloc (Nat.le_refl _) _
  have hz2 : ((w.alloc (.cells U 25)).alloc (.cells uz 25)).heap.size = w.heap.size + 2 := by simp
  have g1 : (((w.alloc (.cells U 25)).alloc (.cells uz 25)).alloc (.cells U 25)).heap[w.heap.size]? = some (.cells U 25 (0, 0)) := (bx2.block _ (by omega)).trans (heap_alloc2_old _ _ _)
  have g2 : (((w.alloc (.cells U 25)).alloc (.cells uz 25)).alloc (.cells U 25)).heap[w.heap.size + 1]? = some (.cells uz 25 (0, 0)) := (bx2.block _ (by omega)).trans (heap_alloc2_new _ _ _)
  have g3 : (((w.alloc (.cells U 25)).alloc (.cells uz 25)).alloc (.cells U 25)).heap[w.heap.size + 2]? = some (.cells U 25 (0, 0)) := by rw [← hz2]; exact heap_alloc_new _ _
  have hz3 : (((w.alloc (.cells U 25)).alloc (.cells uz 25)).alloc (.cells U 25)).heap.size = w.heap.size + 3 := by simp
  have LD : (Instr.loadAt 25 (.pointer (some ⟨w.heap.size, 0, none⟩))).run Try.prog ((w.alloc (.cells U 25)).alloc (.cells uz 25)) = .ok (.agg U) ((w.alloc (.cells U 25)).alloc (.cells uz 25)) := loadU _ _ U US.out _ 25 (heap_alloc2_old _ _ _)
  have SU : Hid ((Try.prog.info? 25).map (·.size) = some U.size) := by show _ = _; rw [US.out]; exact hs25
  have SZ : Hid (uz.size = U.size) := by show _ = _; rw [US.out]; rfl
  have OU : Hid (U.all (·.oneCell') = true) := ONE
  clear ONE hU
  go_enter Try.func4, Try.ntmps4
  go_upto_region 2 with (first | (refine wpList_alloc_row rfl 25 rfl uz (hz25 _) ?_) | (refine wpList_load_v 25 (.tmp 1) rfl ⟨w.heap.size, 0, none⟩ _ rfl LD rfl ?_) | (refine wpList_store_row rfl 25 (.tmp 3) (.tmp 4) rfl _ U rfl rfl 25 uz (heap_alloc_new _ _) SU.out SZ.out OU.out ?_; rw [World.setRow_alloc_new]))
  have hz1 : (w.alloc (.cells U 25)).heap.size = w.heap.size + 1 := by simp
  simp only [Act.put, List.setIfInBounds_toArray, List.set_cons_zero, List.set_cons_succ, hz1, hz2]
  generalize (((w.alloc (.cells U 25)).alloc (.cells uz 25)).alloc (.cells U 25)) = W3 at *
  clear LD SU SZ bx2 hz1 hz2
  rw [HU.out] at g1 g3
  have hu3 := hu.below bx
  obtain ⟨a0, a1, a2, a3, a4, a5⟩ := cells6 g1
  go_wp2_with fail
  refine (handH_any pa P pc W3 hu3.p32 (by have := hu3.pn; simp only at this; omega) hu3.pl).mono ?_
  rintro e w4 ⟨rfl, b4, z4, hs4, _⟩
  have g14 := (b4.block _ (by omega : w.heap.size < W3.heap.size)).trans g1
  have g24 := (b4.block _ (by omega : w.heap.size + 1 < W3.heap.size)).trans g2
  have g34 := (b4.block _ (by omega : w.heap.size + 2 < W3.heap.size)).trans g3
  have bw4 : Below w.heap.size w w4 := bx.trans (b4.mono (by omega))
  clear a0 a1 a2 a3 a4 a5 g1 g2 g3 bx b4 hu3
  obtain ⟨a0, a1, a2, a3, a4, a5⟩ := cells6 g34
  have f0 := frozen_of_row w4 (w.heap.size + 2) 0 _ _ g34
  obtain ⟨gp, hgp⟩ : ∃ gp, gp = W3.heap.size := ⟨_, rfl⟩
  rw [← hgp] at hs4 ⊢
  have gpl : w.heap.size + 3 ≤ gp := by omega
  have gpl2 : gp < w4.heap.size := by omega
  clear hgp
  have h15 : (w4.setCell ⟨w.heap.size + 2, 0, none⟩ (.slice (some ⟨gp, 0, none⟩) P.length (P.length + 9))).heap[w.heap.size]? = some (.cells #[.slice pa P.length pc, .int .i64 au, .int .i64 sq, .int .i64 tm, .string nt, .slice ea E.length ec] 25 (0, 0)) := (Below.heap_setCell _ _ _ _ (by show w.heap.size ≠ w.heap.size + 2; omega)).trans g14
  have h25 : (w4.setCell ⟨w.heap.size + 2, 0, none⟩ (.slice (some ⟨gp, 0, none⟩) P.length (P.length + 9))).heap[w.heap.size + 1]? = some (.cells uz 25 (0, 0)) := (Below.heap_setCell _ _ _ _ (by show w.heap.size + 1 ≠ w.heap.size + 2; omega)).trans g24
  have h35 : (w4.setCell ⟨w.heap.size + 2, 0, none⟩ (.slice (some ⟨gp, 0, none⟩) P.length (P.length + 9))).heap[w.heap.size + 2]? = some (.cells #[.slice (some ⟨gp, 0, none⟩) P.length (P.length + 9), .int .i64 au, .int .i64 sq, .int .i64 tm, .string nt, .slice ea E.length ec] 25 (0, 0)) := heap_setCell_same _ _ 0 _ 25 _ g34
  have bw5 : Below w.heap.size w (w4.setCell ⟨w.heap.size + 2, 0, none⟩ (.slice (some ⟨gp, 0, none⟩) P.length (P.length + 9))) := bw4.setCell (p := ⟨w.heap.size + 2, 0, none⟩) (by show w.heap.size ≤ w.heap.size + 2; omega) _
  have hz5 : (w4.setCell ⟨w.heap.size + 2, 0, none⟩ (.slice (some ⟨gp, 0, none⟩) P.length (P.length + 9))).heap.size = w4.heap.size := by simp [World.setCell]
  have hs5 : Hs (w4.setCell ⟨w.heap.size + 2, 0, none⟩ (.slice (some ⟨gp, 0, none⟩) P.length (P.length + 9))) gp 0 (P ++ marks) := fun i x hx j v hv => by
    rw [World.cell?_of_block (w := w4) (Below.heap_setCell _ _ _ _ (by show gp ≠ w.heap.size + 2; omega))]
    exact hs4 i x hx j v hv
  clear g14 g24 g34 bw4 hs4
  go_upto_region 3 with fail
  generalize (w4.setCell ⟨w.heap.size + 2, 0, none⟩ (.slice (some ⟨gp, 0, none⟩) P.length (P.length + 9))) = W5 at *
  rename_i K aK
  have eo := hu.eo
  have en := hu.en
  have el := hu.el
  have p32 := hu.p32
  simp only at eo en el p32
  clear a0 a1 a2 a3 a4 a5 f0 hu
  refine lent3 w.heap.size (w.heap.size + 2) E.length ec ea E w _ _ _ _ _ _ _ _ _ _ _ _ W5 _ rfl rfl rfl rfl eo rfl en rfl (by omega) bw5 h15 el h35 ?_
  intro a' w' g cap hsz hdf h2 h3 hbel hc hkeep hown
  refine aK _ _ ?_
  clear aK
  have gob := World.ownsRow.lt hown.2 g rfl
  have h2' := (hkeep (w.heap.size + 1) (by omega) (by omega)).trans h25
  have L6 := loadU w' (w.heap.size + 2) _ rfl _ 25 hc
  have ONE : (#[.slice (some ⟨gp, 0, none⟩) P.length (P.length + 9), .int .i64 au, .int .i64 sq, .int .i64 tm, .string nt, .slice (some ⟨g, 0, none⟩) E.length cap] : Array Value).all (·.oneCell') = true := by simp [Value.oneCell']
  apply wp_seq_k
  intro K2 aK2
  refine wp_region_lit ?_
  refine wpList_load_v 25 (.tmp 3) rfl ⟨w.heap.size + 2, 0, none⟩ _ h3 L6 rfl ?_
  refine wpList_store_row rfl 25 (.tmp 2) (.tmp 21) rfl (w.heap.size + 1) #[.slice (some ⟨gp, 0, none⟩) P.length (P.length + 9), .int .i64 au, .int .i64 sq, .int .i64 tm, .string nt, .slice (some ⟨g, 0, none⟩) E.length cap] ((put_ne _ _ _ _ (by decide)).trans h2) (put_same _ _ _ (by omega)) 25 uz h2' hs25 rfl ONE ?_
  refine wpList_nil ?_
  refine aK2 _ _ ?_
  apply wp_ret
  refine bodyPost_ret (res4 _ _ (w.heap.size + 1) 25 _ rfl (0, 0) ((put_ne _ _ _ _ (by decide)).trans h2) (setRow_heap _ _ _ _ _ _ h2')) hdf ⟨gp, g, cap, rfl, ?_, ?_, by omega, by simp [World.setRow]; omega, by omega, hbel.trans (below_setR _ _ _ _ (by omega))⟩
  · intro i x hx j v hv
    rw [World.cell?_of_block (w := w') (setRow_other _ _ _ _ (by show gp ≠ w.heap.size + 1; omega)), World.cell?_of_block (w := W5) (hkeep gp (by omega) (by omega))]
    exact hs5 i x hx j v hv
  · exact (hown.keep fun b hb => setRow_other _ _ _ _ (by cases hb; show g ≠ w.heap.size + 1; omega)).weak (by omega)
end Go.Proofs.Ythfbolmfkilkjaa
