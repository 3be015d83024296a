import Derived.Test.YthfbolmfkilkjaaGk
namespace Go.Proofs.Ythfbolmfkilkjaa
open Go.RowKit
set_option linter.unusedVariables false
set_option linter.unusedSimpArgs false

theorem wpList_val {P : Program} {ops : Array Oper} {rest : List Oper} {o : Oper} {a : Act} {w : World} {Q : Exit → Act → World → Prop} {v : Value} (hw : Region.wanted o (yielded ops a.tmps) = true) (hr : (execOp a.eval o).run P w = .ok (.value v) w) (h : wpList P ops Q rest (a.put o.dst v) w) : wpList P ops Q (o :: rest) a w :=
  wpList_step fun K hK => by
    rw [if_pos hw]
    unfold Oper.wp
    rw [hr]
    exact hK _ _ h
theorem es_pre {w : World} {b off : Nat} {L M : List EdV} (h : Es w b off (L ++ M)) : Es w b off L := fun i x e => h i x (by rw [List.getElem?_append_left (List.getElem?_eq_some_iff.1 e).1]; exact e)
theorem sameU_self (u v : UpV) (h1 : u.P = v.P) (h2 : u.au = v.au) (h3 : u.sq = v.sq) (h4 : u.tm = v.tm) (h5 : u.nt = v.nt) (h6 : u.E = v.E) : sameU u v = true := by
  simp [sameU, h1, h2, h3, h4, h5, h6]
set_option maxRecDepth 100000 in
set_option maxHeartbeats 2000000 in
theorem kept_any (u : UpV) (gp ge ce : Nat) (w : World) (hu : u.ok w) (hp : Hs w gp 0 (u.P ++ marks)) (he : Es w ge 0 (u.E ++ [e77])) (hcap : u.E.length + 1 ≤ ce) :
    Calls Try.prog 8 #[.agg #[.slice (some ⟨gp, 0, none⟩) u.P.length (u.P.length + 9), .int .i64 u.au, .int .i64 u.sq, .int .i64 u.tm, .string u.nt, .slice (some ⟨ge, 0, none⟩) u.E.length ce], .agg u.c] w fun e w' => e = .returned (.bool true) ∧ Below w.heap.size w w' := by
  have ho : UpV.ok w ⟨some ⟨gp, 0, none⟩, u.P.length + 9, u.P, u.au, u.sq, u.tm, u.nt, some ⟨ge, 0, none⟩, ce, u.E⟩ := ⟨hu.p32, hu.pn, .inr ⟨gp, 0, rfl, hs_app hp⟩, hu.eo, hu.en, .inr ⟨ge, 0, rfl, es_pre he⟩⟩
  have SM := fun wx h1 h2 => rusame_any ⟨some ⟨gp, 0, none⟩, u.P.length + 9, u.P, u.au, u.sq, u.tm, u.nt, some ⟨ge, 0, none⟩, ce, u.E⟩ u wx h1 h2
  rw [sameU_self ⟨some ⟨gp, 0, none⟩, u.P.length + 9, u.P, u.au, u.sq, u.tm, u.nt, some ⟨ge, 0, none⟩, ce, u.E⟩ u rfl rfl rfl rfl rfl rfl] at SM
  obtain ⟨C, hC⟩ : ∃ C : Array Value, C = #[.slice (some ⟨gp, 0, none⟩) u.P.length (u.P.length + 9), .int .i64 u.au, .int .i64 u.sq, .int .i64 u.tm, .string u.nt, .slice (some ⟨ge, 0, none⟩) u.E.length ce] := ⟨_, rfl⟩
  rw [← hC]
  have SM' : Hid (∀ wx, UpV.ok wx ⟨some ⟨gp, 0, none⟩, u.P.length + 9, u.P, u.au, u.sq, u.tm, u.nt, some ⟨ge, 0, none⟩, ce, u.E⟩ → u.ok wx → Calls Try.prog 7 #[.agg C, .agg u.c] wx fun e w' => e = .returned (.bool true) ∧ Below wx.heap.size wx w') := by
    show ∀ wx, _ → _ → _
    rw [hC]
    exact SM
  clear SM
  have bx := bel_box2 w C u.c 25 25
  have g1 : ((w.alloc (.cells C 25)).alloc (.cells u.c 25)).heap[w.heap.size]? = some (.cells C 25 (0, 0)) := heap_alloc2_old _ _ _
  have g2 : ((w.alloc (.cells C 25)).alloc (.cells u.c 25)).heap[w.heap.size + 1]? = some (.cells u.c 25 (0, 0)) := heap_alloc2_new _ _ _
  have hz : ((w.alloc (.cells C 25)).alloc (.cells u.c 25)).heap.size = w.heap.size + 2 := by simp
  have CS : Hid (C.size = 6) := by show _ = _; rw [hC]; rfl
  have HC : Hid (C = #[.slice (some ⟨gp, 0, none⟩) u.P.length (u.P.length + 9), .int .i64 u.au, .int .i64 u.sq, .int .i64 u.tm, .string u.nt, .slice (some ⟨ge, 0, none⟩) u.E.length ce]) := hC
  clear hC
  go_enter Try.func8, Try.ntmps8
  go_upto_region 1 with fail
  generalize ((w.alloc (.cells C 25)).alloc (.cells u.c 25)) = W2 at *
  have L1 := loadU W2 _ C CS.out _ 25 g1
  have L2 := loadU W2 _ u.c rfl _ 25 g2
  have g1' := g1
  rw [HC.out] at g1'
  obtain ⟨a0, a1, a2, a3, a4, a5⟩ := cells6 g1'
  obtain ⟨d0, d1, d2, d3, d4, d5⟩ := cells6 g2
  have hu2 := hu.below bx
  have ho2 := ho.below bx
  go_wp2_with (first | (refine wpList_load_v 25 (.tmp 2) rfl ⟨w.heap.size, 0, none⟩ _ rfl L1 rfl ?_) | (refine wpList_load_v 25 (.tmp 3) rfl ⟨w.heap.size + 1, 0, none⟩ _ rfl L2 rfl ?_) | fail)
  refine (SM'.out W2 ho2 hu2).mono ?_
  rintro e w3 ⟨rfl, b3⟩
  have g13 := (b3.block _ (by omega : w.heap.size < W2.heap.size)).trans g1'
  have g23 := (b3.block _ (by omega : w.heap.size + 1 < W2.heap.size)).trans g2
  have bw3 := bx.trans (b3.mono (by omega))
  have lp : gp < w.heap.size := hp.lt (all32_app hu.p32 all32_marks) (by simp [marks_len])
  have le : ge < w.heap.size := he.lt (fun x hx => by
    rcases List.mem_append.1 hx with h | h
    · exact hu.eo x h
    · exact all77 x h) (by simp)
  have hp3 : Hs w3 gp 0 (u.P ++ marks) := hp.below bw3 lp
  have he3 : Es w3 ge 0 (u.E ++ [e77]) := he.below bw3 le
  have hu3 := hu.below bw3
  clear a0 a1 a2 a3 a4 a5 d0 d1 d2 d3 d4 d5 g1 g1' g2 L1 L2 SM' hu2 ho2 ho hp he b3 bx
  obtain ⟨a0, a1, a2, a3, a4, a5⟩ := cells6 g13
  obtain ⟨d0, d1, d2, d3, d4, d5⟩ := cells6 g23
  go_wp2_with fail
  refine (keptH_any gp u.pa u.P u.pc w3 hu3.p32 (by have := hu3.pn; omega) hp3 hu3.pl).mono ?_
  rintro e w4 ⟨rfl, m4, rfl⟩
  have b4 : Below w3.heap.size w3 (w3.drewN m4) := below_drewN (Below.refl _ _) m4
  have g14 : (w3.drewN m4).heap[w.heap.size]? = _ := g13
  have BG : Hid (Below w.heap.size w (w3.drewN m4)) := bw3.trans (b4.mono bw3.size)
  have he4 : Es (w3.drewN m4) ge 0 (u.E ++ [e77]) := he3
  clear a0 a1 a2 a3 a4 a5 d0 d1 d2 d3 d4 d5 g13 g23 bw3 hp3 hu3 b4 he3
  generalize (w3.drewN m4) = W4 at *
  obtain ⟨a0, a1, a2, a3, a4, a5⟩ := cells6 g14
  clear g14 HC CS
  have en := hu.en
  obtain ⟨n, hn⟩ : ∃ n, n = u.E.length := ⟨_, rfl⟩
  have he5 := he4 n e77 (by rw [hn]; simp)
  rw [← hn] at hcap en a5 ⊢
  clear hn hu
  have hcI : (n : Int) + 1 ≤ (ce : Int) := by omega
  have ix : ∀ wx, (Instr.indexAt 23 (.slice (some ⟨ge, 0, none⟩) (n + 1) ce) (.int .i64 (n : Int))).run Try.prog wx = .ok (.pointer (some ⟨ge, 111 * n, none⟩)) wx := fun wx => by
    have := indexE ge 0 (n + 1) ce n wx (by omega)
    rwa [Nat.zero_add] at this
  rw [Nat.zero_add] at he5
  have L5 := loadEs W4 ge (111 * n) e77 e77_ok he5
  have heq := fun wx => eqEd e77 e77 e77_ok e77_ok rfl rfl wx
  simp only [decide_true] at heq
  clear he5 he4
  go_wp2_with (first | (refine wpList_load_v 39 _ rfl ⟨ge, 111 * n, none⟩ _ rfl L5 rfl ?_) | (refine wpList_val rfl (exec_b77 rfl _) ?_))
  go_ret
  exact ⟨rfl, BG.out⟩
end Go.Proofs.Ythfbolmfkilkjaa
