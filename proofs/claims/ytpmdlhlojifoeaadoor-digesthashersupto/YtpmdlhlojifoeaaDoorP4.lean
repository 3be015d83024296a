import Derived.Test.YtpmdlhlojifoeaaDoorP3
import Derived.Test.YtpmdlhlojifoeaaDoorP1
namespace Go.Proofs.YtpmdlhlojifoeaaDoor
open Go.RowKit
set_option linter.unusedVariables false
set_option linter.unusedSimpArgs false

theorem rr_ne {B : Nat} {w : World} {h : Nat} {v : Value} {m : List UInt8} (r : RR B w h v m) : v.ownBlock ≠ some h := by
  intro e
  rcases r.2.2 with ⟨rfl, _⟩ | ⟨g, cap, cur, rfl, hbg, hg, _⟩
  · simp [Value.ownBlock] at e
  · simp [Value.ownBlock] at e
    subst e
    rw [r.1] at hg
    simp at hg
theorem run_app2 (w : World) (base : Nat) (ty : TypeId) (v : Value) (L : List UInt8) (a : Option Addr) (M : List UInt8) (c : Nat) (hown : OwnB w base v L) (hb : Byt w a M)
    (h : L.length + M.length ≤ 140737488355328) (hbase : base ≤ w.heap.size) :
    ∃ v' w', (Builtin.append_ #[26, 26] ty #[v, .slice a M.length c]).run Tryd.prog w = .ok v' w' ∧ OwnB w' base v' (L ++ M) ∧ w.grownBy w' v.ownBlock ∧ (v'.ownBlock = v.ownBlock ∨ v'.ownBlock = some w.heap.size) := by
  obtain ⟨i, hi, hz, hs, hby⟩ := info5'
  cases a with
  | some ad =>
    have hnews : ∀ j u, (byC M)[j]? = some u → w.cell? (ad.add j) = some u := fun j u hj => by
      obtain ⟨h1, rfl⟩ := byC_get _ j u hj
      rcases hb with rfl | ⟨b, off, e, hc⟩
      · simp at h1
      · cases e
        rw [Addr.add_mid]
        exact hc j h1
    obtain ⟨v', w', hr, h2, h3, _, h5⟩ := run_append_own_at (P := Tryd.prog) w base 26 ty 5 i (.int .u8 0) 1 1 Tryd.underlying26 hi hz hs hby rfl (by decide) v L.length (byC L) hown ad M.length c (byC M) (by rw [byC_len]; omega) hnews (byC_one _) (by unfold maxLen; omega) (by omega) hbase
    refine ⟨v', w', hr, ?_, h3, h5⟩
    unfold OwnB
    rw [List.length_append, show byC (L ++ M) = byC L ++ byC M by simp [byC]]
    exact h2
  | none =>
    obtain rfl : M = [] := by
      rcases hb with rfl | ⟨b, off, e, _⟩
      · rfl
      · cases e
    rcases hown.2 with ⟨rfl, hn⟩ | ⟨g, cap, cur, rfl, hbg, hg, hnc, rest⟩
    · refine ⟨.slice none 0 0, w, ?_, by rw [List.append_nil]; exact hown, ⟨rfl, rfl, rfl, Nat.le_refl _, fun _ _ _ => rfl⟩, .inl rfl⟩
      simp [Builtin.append_, run_underlying Tryd.underlying26, sizeOf, typeInfo, hi, Builtin.lenOf, Builtin.firstCells, loadCells, loadCellsFrom]
    · refine ⟨.slice (some ⟨g, 0, none⟩) L.length cap, w, ?_, by rw [List.append_nil]; exact hown, ⟨rfl, rfl, rfl, Nat.le_refl _, fun _ _ _ => rfl⟩, .inl rfl⟩
      simp [Builtin.append_, run_underlying Tryd.underlying26, sizeOf, typeInfo, hi, Builtin.lenOf, Builtin.firstCells, hnc, storeCells]
theorem wpList_app2 {ops : Array Oper} {rest : List Oper} {o : Oper} {a : Act} {w : World} {Q : Exit → Act → World → Prop} (hgd : o.guard = none) (s x : Operand)
    (ho : o.op = .call { callee := .builtin .append, args := #[s, x], argTypes := #[26, 26] }) (base : Nat) (v : Value) (L : List UInt8) (hs : a.eval s = v) (hown : OwnB w base v L)
    (aa : Option Addr) (m c : Nat) (M : List UInt8) (hx : a.eval x = .slice aa m c) (hm : M.length = m) (hb : Byt w aa M) (hlen : L.length + M.length ≤ 140737488355328) (hbase : base ≤ w.heap.size)
    (h : ∀ v' w', OwnB w' base v' (L ++ M) → w.grownBy w' v.ownBlock → (v'.ownBlock = v.ownBlock ∨ v'.ownBlock = some w.heap.size) → wpList Tryd.prog ops Q rest (a.put o.dst v') w') : wpList Tryd.prog ops Q (o :: rest) a w :=
  wpList_plain hgd fun _ hK => by
    subst hm
    obtain ⟨v', w', hr, h2, h3, h4⟩ := run_app2 w base o.type v L aa M c hown hb hlen hbase
    unfold Oper.wp execOp
    simp only [ho, resolve, invoke, builtin, Sem.run_bind, Sem.run_pure, Result.andThen_ok, List.map_toArray, List.map_cons, List.map_nil, hs, hx, hr]
    exact hK _ _ (h v' w' h2 h3 h4)

/-- All is as it was, but for a Hasher of the reference. -/
structure Two (h : Nat) (v : Value) (w w' : World) : Prop where
  os : w'.os = w.os
  tape : w'.tape = w.tape
  output : w'.output = w.output
  size : w.heap.size ≤ w'.heap.size
  block : ∀ k, k < w.heap.size → k ≠ h → some k ≠ v.ownBlock → w'.heap[k]? = w.heap[k]?
theorem Two.fr {B : Nat} {T : Nat → Nat} {i h : Nat} {v : Value} {m : List UInt8} {w w' : World} (t : Two h v w w') (hB : B ≤ h) (ht : T h = i) (r : RR B w h v m) (hv : ∀ b, v.ownBlock = some b → T b = i) : Fr B T i w w' :=
  ⟨t.os, t.tape, t.output, t.size, fun k hk hn => t.block k hk (fun e => by subst e; rcases hn with hn | hn; omega; exact hn ht) (fun e => by
    have := (World.ownsRow.lt r.2 k e.symm).1
    rcases hn with hn | hn
    · omega
    · exact hn (hv k e.symm))⟩
theorem ri64 : (Tryd.prog.info? 64).map (·.size) = some 1 := by kernel_rfl

set_option maxHeartbeats 800000 in
theorem rwrite_any (B h : Nat) (v : Value) (m l : List UInt8) (a : Option Addr) (len cap : Nat) (w : World) (hlen : l.length = len) (r : RR B w h v m) (hb : Byt w a l) (hl : m.length + l.length ≤ 140737488355328) (hB : B ≤ w.heap.size) :
    Calls Tryd.prog 22 #[.pointer (some ⟨h, 0, none⟩), .slice a len cap] w fun e w' => e = .returned (.tuple #[]) ∧ ∃ v', RR B w' h v' (m ++ l) ∧ (v'.ownBlock = v.ownBlock ∨ ∃ b, v'.ownBlock = some b ∧ w.heap.size ≤ b) ∧ Two h v w w' := by
  obtain ⟨av, cv, hv, hcv, byv, hav⟩ := r.2.open
  subst hv
  clear hcv byv hav
  have q0 : w.cell? ⟨h, 0, none⟩ = some (.slice av m.length cv) := cell_of_row w h 0 _ _ _ r.1
  have f0 := frozen_of_row w h 0 _ _ r.1
  have HR : Hid (OwnB w B (.slice av m.length cv) m) := r.2
  have HBy : Hid (Byt w a l) := hb
  have HLn : Hid (l.length = len) := hlen
  have ne := rr_ne r
  have hh := r.lt
  have r1 := r.1
  clear hb hlen
  go_enter Tryd.func22, Tryd.ntmps22
  go_wp2_with (first | (at_builtin; refine wpList_app2 rfl (.tmp 10) (.tmp 11) rfl B (.slice av m.length cv) m rfl HR.out a len cap l rfl HLn.out HBy.out hl hB ?_) | fail)
  intro v' w1 own' gr at'
  have e1 : w1.heap[h]? = some (.cells #[.slice av m.length cv] 64 (0, 0)) := (gr.block h hh (fun e => ne e.symm)).trans r1
  have f1 := frozen_of_row w1 h 0 _ _ e1
  have q1 : w1.cell? ⟨h, 0, none⟩ = some (.slice av m.length cv) := cell_of_row w1 h 0 _ _ _ e1
  have HP : Hid (RR B (w1.setCell ⟨h, 0, none⟩ v') h v' (m ++ l) ∧ (v'.ownBlock = (Value.slice av m.length cv).ownBlock ∨ ∃ b, v'.ownBlock = some b ∧ w.heap.size ≤ b) ∧ Two h (.slice av m.length cv) w (w1.setCell ⟨h, 0, none⟩ v')) := by
    refine ⟨⟨?_, ownsRow_keep own' fun g hg => Below.heap_setCell _ _ _ _ (fun e => ?_)⟩, ?_, gr.os, gr.tape, gr.output, ?_, fun k hk hn hv => ?_⟩
    · rw [heap_setCell_same w1 h 0 _ 64 _ e1]
      rfl
    · subst e
      rcases at' with e | e
      · exact ne (e.symm.trans hg)
      · rw [e] at hg; cases hg; omega
    · rcases at' with e | e
      · exact .inl e
      · exact .inr ⟨_, e, Nat.le_refl _⟩
    · simpa [World.setCell] using gr.size
    · rw [Below.heap_setCell _ _ _ _ hn]; exact gr.block k hk hv
  obtain ⟨av', cv', hv', _⟩ := own'.open
  clear own' gr at' e1 r r1 HR HBy ne
  obtain ⟨ML, hML⟩ : ∃ ML, ML = m ++ l := ⟨_, rfl⟩
  rw [← hML] at HP hv'
  have HML : Hid (ML = m ++ l) := hML
  clear hML
  subst hv'
  go_wp2
  go_end0
  exact ⟨rfl, _, by rw [← HML.out]; exact HP.out⟩
theorem rwrite_nil (a : Value) (w : World) : Calls Tryd.prog 22 #[.pointer none, a] w fun e w' => e = .returned (.tuple #[]) ∧ w' = w := by
  go_enter Tryd.func22, Tryd.ntmps22
  go_wp2
  go_end0
  exact ⟨rfl, rfl⟩
theorem write_nil (a : Value) (w : World) : Calls Tryd.prog 21 #[.pointer none, a] w fun e w' => e = .returned (.tuple #[]) ∧ w' = w := by
  go_enter Tryd.func21, Tryd.ntmps21
  go_wp2
  exact bodyPost_ret (v := .tuple #[]) (by simp [results, Tryd.results21]) rfl ⟨rfl, rfl⟩
theorem len_nil (w : World) : Calls Tryd.prog 23 #[.pointer none] w fun e w' => e = .returned (.int .i64 0) ∧ w' = w := by
  go_enter Tryd.func23, Tryd.ntmps23
  go_wp2
  go_ret
  exact ⟨rfl, rfl⟩
theorem rlen_nil (w : World) : Calls Tryd.prog 24 #[.pointer none] w fun e w' => e = .returned (.int .i64 0) ∧ w' = w := by
  go_enter Tryd.func24, Tryd.ntmps24
  go_wp2
  go_ret
  exact ⟨rfl, rfl⟩
theorem fork_nil (w : World) : Calls Tryd.prog 25 #[.pointer none] w fun e w' => e = .returned (.pointer none) ∧ w' = w := by
  go_enter Tryd.func25, Tryd.ntmps25
  go_wp2
  go_ret
  exact ⟨rfl, rfl⟩
theorem rfork_nil (w : World) : Calls Tryd.prog 26 #[.pointer none] w fun e w' => e = .returned (.pointer none) ∧ w' = w := by
  go_enter Tryd.func26, Tryd.ntmps26
  go_wp2
  go_ret
  exact ⟨rfl, rfl⟩
theorem res28 (tmps : Array Value) (w : World) (g : Nat) (t : TypeId) (l : List UInt8) (hl : l.length = 32) (fr : Nat × Nat) (hp : tmps.getD 2 undef = .pointer (some ⟨g, 0, none⟩)) (hg : w.heap[g]? = some (.cells (bs l) t fr)) :
    (results Tryd.f28 tmps).run Tryd.prog w = .ok (.agg (bs l)) w :=
  results_cell_row Tryd.results28 tmps w g t (bs l) fr _ hp hg Tryd.underlying24 rfl (by rw [bs_size, hl]; exact hs24)
theorem wpList_build_none {P : Program} {ops : Array Oper} {rest : List Oper} {o : Oper} {a : Act} {w : World} {Q : Exit → Act → World → Prop} (hgd : o.guard = none) (ty : TypeId) (ho : o.op = .build ty #[])
    (Z : Array Value) (hz : P.built ty [] = some Z)
    (h : wpList P ops Q rest (a.put o.dst (.agg Z)) w) : wpList P ops Q (o :: rest) a w := by
  refine wpList_build hgd ty #[] ho (by simp [hz]) ?_
  simpa [hz] using h
theorem hsum_nil (w : World) : Calls Tryd.prog 27 #[.pointer none] w fun e w' => e = .returned (.agg (bs z32)) ∧ Below w.heap.size w w' := by
  have hq0 : (w.alloc (.cells (bs z32) 24)).heap[w.heap.size]? = some (.cells (bs z32) 24 (0, 0)) := heap_alloc_new _ _
  have hb0 : Below w.heap.size w (w.alloc (.cells (bs z32) 24)) := (Below.refl _ _).alloc (Nat.le_refl _) _
  go_enter Tryd.func27, Tryd.ntmps27
  go_wp2_with (first | (refine wpList_alloc_row rfl 24 rfl (bs z32) (hz24 _) ?_) | (refine wpList_build_none rfl 24 rfl (bs z32) hb24 ?_) | (refine wpList_store_row rfl 24 (.tmp 2) (.tmp 10) rfl w.heap.size (bs z32) rfl rfl 24 (bs z32) hq0 hs24 rfl (bs_one _) ?_))
  exact bodyPost_ret (res27 _ _ w.heap.size 24 z32 rfl (0, 0) rfl (setRow_heap _ _ _ _ _ _ hq0)) rfl ⟨rfl, hb0.trans (below_setRow _ _ _ _ (Nat.le_refl _))⟩
theorem rhsum_nil (w : World) : Calls Tryd.prog 28 #[.pointer none] w fun e w' => e = .returned (.agg (bs z32)) ∧ Below w.heap.size w w' := by
  have hq0 : (w.alloc (.cells (bs z32) 24)).heap[w.heap.size]? = some (.cells (bs z32) 24 (0, 0)) := heap_alloc_new _ _
  have hb0 : Below w.heap.size w (w.alloc (.cells (bs z32) 24)) := (Below.refl _ _).alloc (Nat.le_refl _) _
  go_enter Tryd.func28, Tryd.ntmps28
  go_wp2_with (first | (refine wpList_alloc_row rfl 24 rfl (bs z32) (hz24 _) ?_) | (refine wpList_build_none rfl 24 rfl (bs z32) hb24 ?_) | (refine wpList_store_row rfl 24 (.tmp 2) (.tmp 5) rfl w.heap.size (bs z32) rfl rfl 24 (bs z32) hq0 hs24 rfl (bs_one _) ?_))
  exact bodyPost_ret (res28 _ _ w.heap.size 24 z32 rfl (0, 0) rfl (setRow_heap _ _ _ _ _ _ hq0)) rfl ⟨rfl, hb0.trans (below_setRow _ _ _ _ (Nat.le_refl _))⟩
theorem rnew_any (B : Nat) (w : World) : Calls Tryd.prog 19 #[] w fun e w' => e = .returned (.pointer (some ⟨w.heap.size, 0, none⟩)) ∧ w' = w.alloc (.cells #[.slice none 0 0] 64) := by
  go_enter Tryd.func19, Tryd.ntmps19
  go_wp2
  go_ret
  exact ⟨rfl, rfl⟩
theorem rr_new (B : Nat) (w : World) : RR B (w.alloc (.cells #[.slice none 0 0] 64)) w.heap.size (.slice none 0 0) [] := ⟨heap_alloc_new _ _, ownB_nil _ _⟩
theorem rlen_any (B h : Nat) (v : Value) (m : List UInt8) (w : World) (r : RR B w h v m) : Calls Tryd.prog 24 #[.pointer (some ⟨h, 0, none⟩)] w fun e w' => e = .returned (.int .i64 (m.length : Int)) ∧ w' = w := by
  obtain ⟨av, cv, hv, hcv, byv, hav⟩ := r.2.open
  subst hv
  have q0 : w.cell? ⟨h, 0, none⟩ = some (.slice av m.length cv) := cell_of_row w h 0 _ _ _ r.1
  clear r hcv byv hav
  go_enter Tryd.func24, Tryd.ntmps24
  go_wp2
  go_ret
  exact ⟨rfl, rfl⟩
theorem rhsum_any (B h : Nat) (v : Value) (m : List UInt8) (w : World) (r : RR B w h v m) (hl : m.length ≤ 140737488355200) (hK : RoundsAt w) (hF : RootsAt w) (h5 : 5 ≤ w.heap.size) :
    Calls Tryd.prog 28 #[.pointer (some ⟨h, 0, none⟩)] w fun e w' => e = .returned (.agg (bs (sha m))) ∧ Below w.heap.size w w' := by
  obtain ⟨av, cv, hv, hcv, byv, hav⟩ := r.2.open
  subst hv
  have b0 : Below w.heap.size w (w.alloc (.cells (bs z32) 24)) := (Below.refl _ _).alloc (Nat.le_refl _) _
  have g0 : (w.alloc (.cells (bs z32) 24)).heap[w.heap.size]? = some (.cells (bs z32) 24 (0, 0)) := heap_alloc_new _ _
  have q0 : (w.alloc (.cells (bs z32) 24)).cell? ⟨h, 0, none⟩ = some (.slice av m.length cv) := (b0.cell (p := ⟨h, 0, none⟩) r.lt).trans (cell_of_row w h 0 _ _ _ r.1)
  have by0 := byt_below byv b0
  have z0 := b0.size
  have LS : (sha m).length = 32 := sha_len m
  clear r hcv hav byv
  go_enter Tryd.func28, Tryd.ntmps28
  go_wp2_with (first | (refine wpList_alloc_row rfl 24 rfl (bs z32) (hz24 _) ?_) | fail)
  have k0 := roundsAt_below hK h5 b0
  have f0 := rootsAt_below hF h5 b0
  generalize (w.alloc (.cells (bs z32) 24)) = W0 at *
  refine (rsum_any av m m.length cv W0 rfl by0 hl k0 f0 (by omega)).mono ?_
  rintro e w1 ⟨rfl, b1⟩
  have g1 : w1.heap[w.heap.size]? = some (.cells (bs z32) 24 (0, 0)) := by rw [b1.block _ (Array.getElem?_eq_some_iff.1 g0).1]; exact g0
  have b2 : Below w.heap.size w w1 := b0.trans (b1.mono (by omega))
  clear by0 k0 f0 q0 b1 b0 g0
  go_wp2_with (first | (refine wpList_store_row rfl 24 (.tmp 2) (.tmp 10) rfl w.heap.size (bs (sha m)) rfl rfl 24 (bs z32) g1 (by rw [bs_size, LS]; exact hs24) (by rw [bs_size, bs_size, LS]; rfl) (bs_one _) ?_))
  exact bodyPost_ret (res28 _ _ w.heap.size 24 (sha m) LS (0, 0) rfl (setRow_heap _ _ _ _ _ _ g1)) rfl ⟨rfl, b2.trans (below_setRow _ _ _ _ (Nat.le_refl _))⟩
theorem rfork_any (B h : Nat) (v : Value) (m : List UInt8) (w : World) (r : RR B w h v m) (hl : m.length ≤ 140737488355200) (hB : B ≤ w.heap.size) :
    Calls Tryd.prog 26 #[.pointer (some ⟨h, 0, none⟩)] w fun e w' => e = .returned (.pointer (some ⟨w.heap.size, 0, none⟩)) ∧ ∃ v', RR B w' w.heap.size v' m ∧ (∀ b, v'.ownBlock = some b → w.heap.size ≤ b) ∧ Below w.heap.size w w' ∧ w.heap.size < w'.heap.size := by
  obtain ⟨av, cv, hv, hcv, byv, hav⟩ := r.2.open
  subst hv
  have q0 : (w.alloc (.cells #[.slice none 0 0] 64)).cell? ⟨h, 0, none⟩ = some (.slice av m.length cv) := ((Below.refl w.heap.size w).alloc (Nat.le_refl _) (.cells #[.slice none 0 0] 64)).cell (p := ⟨h, 0, none⟩) r.lt |>.trans (cell_of_row w h 0 _ _ _ r.1)
  clear hcv hav
  go_enter Tryd.func26, Tryd.ntmps26
  go_wp2_with fail
  refine (rnew_any B w).mono ?_
  rintro e w1 ⟨rfl, rfl⟩
  have b1 : Below w.heap.size w (w.alloc (.cells #[.slice none 0 0] 64)) := (Below.refl _ _).alloc (Nat.le_refl _) _
  have n1 := rr_new w.heap.size w
  have z1 : w.heap.size < (w.alloc (.cells #[.slice none 0 0] 64)).heap.size := by simp
  have by1 := byt_below byv b1
  generalize (w.alloc (.cells #[.slice none 0 0] 64)) = W1 at *
  go_wp2_with fail
  refine (rwrite_any w.heap.size w.heap.size (.slice none 0 0) [] m av m.length cv W1 rfl n1 by1 (by simp; omega) (by omega)).mono ?_
  rintro e w2 ⟨rfl, v', r2, at2, t2⟩
  have z2 := t2.size
  have HP : Hid (∃ v', RR B w2 w.heap.size v' m ∧ (∀ b, v'.ownBlock = some b → w.heap.size ≤ b) ∧ Below w.heap.size w w2 ∧ w.heap.size < w2.heap.size) := by
    refine ⟨v', ⟨r2.1, ?_⟩, fun b hb => (World.ownsRow.lt r2.2 b hb).1, b1.trans ⟨t2.os, t2.tape, t2.output, t2.size, fun k hk => t2.block k (by omega) (by omega) (by simp [Value.ownBlock])⟩, by omega⟩
    obtain ⟨o1, o2⟩ := r2.2
    refine ⟨o1, ?_⟩
    rcases o2 with hn | ⟨g, cap, cur, e, hbg, rest⟩
    · exact .inl hn
    · exact .inr ⟨g, cap, cur, e, by omega, rest⟩
  clear r2 t2 at2 b1 n1 by1 byv
  go_wp2
  go_ret
  exact ⟨rfl, HP.out⟩
end Go.Proofs.YtpmdlhlojifoeaaDoor

namespace Go.Proofs.YtpmdlhlojifoeaaDoor
open Go.RowKit
set_option linter.unusedVariables false
set_option linter.unusedSimpArgs false

/-- The marks behind what is handed in. -/
def marks : List UInt8 := [160, 161, 162, 163, 164, 165, 166, 167, 168]
/-- What is handed in, with its marks, as far as place k. -/
def handTo (l : List UInt8) (k : Nat) : List UInt8 := (l ++ marks).take k ++ List.replicate (l.length + 9 - k) 0
theorem handTo_len (l : List UInt8) (k : Nat) (h : k ≤ l.length + 9) : (handTo l k).length = l.length + 9 := by
  simp [handTo, marks]; omega
theorem handTo_zero (l : List UInt8) : handTo l 0 = List.replicate (l.length + 9) 0 := by simp [handTo]
theorem handTo_all (l : List UInt8) : handTo l (l.length + 9) = l ++ marks := by
  unfold handTo
  rw [List.take_of_length_le (by simp [marks])]
  simp
theorem handTo_succ (l : List UInt8) (k : Nat) (v : UInt8) (h : k < l.length + 9) (hv : (l ++ marks).getD k 0 = v) : (handTo l k).set k v = handTo l (k + 1) := by
  have hL : k < (l ++ marks).length := by simp [marks]; omega
  unfold handTo
  have e : l.length + 9 - k = (l.length + 9 - (k + 1)) + 1 := by omega
  have e1 : ((l ++ marks).take k).length = k := by rw [List.length_take]; omega
  rw [e, List.replicate_succ, List.set_append_right _ _ (by omega), e1, Nat.sub_self, List.take_succ_eq_append_getElem hL]
  have e2 : (l ++ marks)[k] = v := by rw [← hv]; simp [List.getElem?_eq_getElem hL]
  rw [e2]
  simp
theorem mark_at (l : List UInt8) (k : Nat) (h : k < 9) : at8 (l ++ marks) (l.length + k) = 160 + (k : Int) := by
  have e : (l ++ marks).getD (l.length + k) 0 = marks.getD k 0 := by
    simp [List.getElem?_append_right]
  unfold at8
  rw [e]
  have : ∀ k : Fin 9, (((marks.getD k.val 0).toNat : Nat) : Int) = 160 + (k.val : Int) := by decide
  exact this ⟨k, h⟩
theorem own_at (l : List UInt8) (k : Nat) (h : k < l.length) : at8 (l ++ marks) k = at8 l k := by
  simp [at8, List.getElem?_append_left h]

set_option maxHeartbeats 2000000 in
theorem hand_any (a : Option Addr) (l : List UInt8) (cap : Nat) (w : World) (hb : Byt w a l) (hl : l.length ≤ 140737488351232) :
    Calls Tryd.prog 13 #[.slice a l.length cap] w fun e w' => e = .returned (.slice (some ⟨w.heap.size, 0, none⟩) l.length (l.length + 9)) ∧ w'.heap[w.heap.size]? = some (.cells (bs (l ++ marks)) 5 (0, 0)) ∧ Below w.heap.size w w' := by
  have hmk := fun wx => run_make_row' (P := Tryd.prog) 26 5 (.int .u8 0) 1 Tryd.underlying26 Tryd.info5 rfl .i64 .i64 (l.length + 9) (by omega) (by omega) wx
  rw [made_bs] at hmk
  have hc1 : ((l.length + 9 : Nat) : Int) = (l.length : Int) + 9 := by omega
  rw [hc1] at hmk
  go_enter Tryd.func13, Tryd.ntmps13
  go_wp2
  clear hmk
  go_loopw [4] (fun i wr => ∃ k : Nat, k ≤ l.length ∧ i = .int .i64 k ∧ wr.heap[w.heap.size]? = some (.cells (bs (handTo l k)) 5 (0, 0)) ∧ Below w.heap.size w wr) (fun i _ => l.length - (intOf i).toNat)
  case atStart => exact ⟨0, Nat.zero_le _, rfl, by rw [handTo_zero]; exact heap_alloc_new _ _, (Below.refl _ _).alloc (Nat.le_refl _) _⟩
  case round =>
    obtain ⟨k, hk, rfl, hg, hbel⟩ := hrel
    have hlt : w.heap.size < wr.heap.size := (Array.getElem?_eq_some_iff.1 hg).1
    by_cases h1 : k < l.length
    · have hc := (cell_of_row wr w.heap.size k _ _ _ hg).trans (bs_get _ k (by rw [handTo_len _ _ (by omega)]; omega))
      have hf := frozen_of_row wr w.heap.size k _ _ hg
      rcases hb with rfl | ⟨b, off, rfl, hcc⟩
      · simp at h1
      · have d1 := (hbel.cell (p := ⟨b, off + k, none⟩) (block_lt_of_cell (hcc k h1))).trans (hcc k h1)
        go_wp2
        go_roundw
        case rel =>
          refine ⟨k + 1, by omega, by go_num, ?_, ?_⟩
          · show (wr.setCell _ _).heap[_]? = _
            rw [heap_setCell_same wr w.heap.size k _ 5 _ hg]
            unfold at8
            rw [bs_set, handTo_succ _ _ _ (by omega) (by simp [List.getElem?_append_left h1])]
          · exact (hbel.setCell (by simp) _)
        case measure => simp [intOf]; omega
    · have hk2 : k = l.length := by omega
      subst hk2
      clear h1 hk
      go_wp2
      go_loopw [5] (fun i wq => ∃ k : Nat, k ≤ 9 ∧ i = .int .i64 ((l.length : Int) + k) ∧ wq.heap[w.heap.size]? = some (.cells (bs (handTo l (l.length + k))) 5 (0, 0)) ∧ Below w.heap.size w wq) (fun i _ => l.length + 9 - (intOf i).toNat)
      case atStart => exact ⟨0, by omega, by simp, hg, hbel⟩
      case round =>
        clear hg hbel hlt
        obtain ⟨k, hk, rfl, hg, hbel⟩ := hrel
        have hlt : w.heap.size < wr.heap.size := (Array.getElem?_eq_some_iff.1 hg).1
        by_cases h1 : k < 9
        · have hc := (cell_of_row wr w.heap.size (l.length + k) _ _ _ hg).trans (bs_get _ (l.length + k) (by rw [handTo_len _ _ (by omega)]; omega))
          have hf := frozen_of_row wr w.heap.size (l.length + k) _ _ hg
          have hm := mark_at l k h1
          have ht : ((l.length : Int) + (k : Int)).toNat = l.length + k := by omega
          have hw1 : IntKind.u8.wrap (160 + ((l.length : Int) + (k : Int)) - (l.length : Int)) = at8 (l ++ marks) (l.length + k) := by
            rw [hm, IntKind.wrap_u8']; omega
          go_wp2
          go_roundw
          case rel =>
            refine ⟨k + 1, by omega, by go_num, ?_, ?_⟩
            · show (wr.setCell _ _).heap[_]? = _
              rw [heap_setCell_same wr w.heap.size (l.length + k) _ 5 _ hg]
              rw [← hm]
              unfold at8
              rw [bs_set, handTo_succ _ _ _ (by omega) rfl]
              rfl
            · exact (hbel.setCell (by simp) _)
          case measure => simp [intOf]; omega
        · have hk2 : k = 9 := by omega
          subst hk2
          rw [handTo_all] at hg
          go_wp2
          go_ret
          exact ⟨rfl, hg, hbel⟩

set_option maxHeartbeats 2000000 in
/-- The same bytes at two places. -/
theorem same_any (a1 a2 : Option Addr) (l : List UInt8) (n c1 c2 : Nat) (w : World) (hn : l.length = n) (h1 : Byt w a1 l) (h2 : Byt w a2 l) (hl : n ≤ 140737488351232) :
    Calls Tryd.prog 33 #[.slice a1 n c1, .slice a2 n c2] w fun e w' => e = .returned (.bool true) ∧ ∃ m, w' = w.drewN m := by
  subst hn
  go_enter Tryd.func33, Tryd.ntmps33
  go_wp2
  go_loopw [5] (fun i wr => ∃ k : Nat, k ≤ l.length ∧ i = .int .i64 k ∧ ∃ m, wr = w.drewN m) (fun i _ => l.length - (intOf i).toNat)
  case atStart => exact ⟨0, Nat.zero_le _, rfl, 0, rfl⟩
  case round =>
    obtain ⟨k, hk, rfl, m, rfl⟩ := hrel
    by_cases hlt : k < l.length
    · rcases h1 with rfl | ⟨b1, o1, rfl, d1⟩
      · simp at hlt
      rcases h2 with rfl | ⟨b2, o2, rfl, d2⟩
      · simp at hlt
      have e1 := d1 k hlt
      have e2 := d2 k hlt
      go_wp2
      go_quiet (fail)
      go_wp2
      go_roundw
      case rel => exact ⟨k + 1, by omega, by go_num, _, rfl⟩
      case measure => simp [intOf]; omega
    · have hk2 : k = l.length := by omega
      subst hk2
      go_wp2
      go_ret
      exact ⟨rfl, m, rfl⟩

set_option maxHeartbeats 2000000 in
theorem kept_any (g : Nat) (a : Option Addr) (l : List UInt8) (cap : Nat) (w : World) (hg : w.heap[g]? = some (.cells (bs (l ++ marks)) 5 (0, 0))) (hb : Byt w a l) (hl : l.length ≤ 140737488351232) :
    Calls Tryd.prog 16 #[.slice (some ⟨g, 0, none⟩) l.length (l.length + 9), .slice a l.length cap] w fun e w' => e = .returned (.bool true) ∧ ∃ m, w' = w.drewN m := by
  have hL : (l ++ marks).length = l.length + 9 := by simp [marks]
  have hq : Byt w (some ⟨g, 0, none⟩) l := .inr ⟨g, 0, rfl, fun j hj => by
    rw [Nat.zero_add, ← own_at l j hj]
    exact (cell_of_row w g j _ _ _ hg).trans (bs_get _ j (by omega))⟩
  go_enter Tryd.func16, Tryd.ntmps16
  go_wp2_with fail
  refine (same_any _ _ l l.length _ _ w rfl hq hb hl).mono ?_
  rintro e w' ⟨rfl, m, rfl⟩
  go_wp2
  go_loopw [6] (fun i wr => ∃ k : Nat, k ≤ 9 ∧ i = .int .i64 ((l.length : Int) + k) ∧ wr = w.drewN m) (fun i _ => l.length + 9 - (intOf i).toNat)
  case atStart => exact ⟨0, by omega, by simp, rfl⟩
  case round =>
    obtain ⟨k, hk, rfl, rfl⟩ := hrel
    by_cases h1 : k < 9
    · have hc := (cell_of_row w g (l.length + k) _ _ _ hg).trans (bs_get _ (l.length + k) (by omega))
      have hm := mark_at l k h1
      rw [hm] at hc
      have ht : ((l.length : Int) + (k : Int)).toNat = l.length + k := by omega
      have hw1 : IntKind.u8.wrap (160 + ((l.length : Int) + (k : Int)) - (l.length : Int)) = 160 + (k : Int) := by
        rw [IntKind.wrap_u8']; omega
      go_wp2
      go_roundw
      case rel => exact ⟨k + 1, by omega, by go_num, trivial⟩
      case measure => simp [intOf]; omega
    · have hk2 : k = 9 := by omega
      subst hk2
      go_wp2
      go_ret
      exact ⟨rfl, m, rfl⟩
end Go.Proofs.YtpmdlhlojifoeaaDoor

namespace Go.Proofs.YtpmdlhlojifoeaaDoor
open Go.RowKit
set_option linter.unusedVariables false
set_option linter.unusedSimpArgs false

def pa (e : Option (Nat × List UInt8)) : Option Addr := e.map fun x => ⟨x.1, 0, none⟩
def pb (e : Option (Nat × Value × List UInt8)) : Option Addr := e.map fun x => ⟨x.1, 0, none⟩
theorem pl_eq (e : Option (Nat × List UInt8)) : pl e = .pointer (pa e) := rfl
theorem pm_eq (e : Option (Nat × Value × List UInt8)) : pm e = .pointer (pb e) := rfl
def cL (e : Option (Nat × List UInt8)) : Option (List UInt8) := e.map fun x => x.2
def cM (e : Option (Nat × Value × List UInt8)) : Option (List UInt8) := e.map fun x => x.2.2
def shaO : Option (List UInt8) → List UInt8
  | none => z32
  | some m => sha m
theorem shaO_len (c : Option (List UInt8)) : (shaO c).length = 32 := by
  cases c with
  | none => rfl
  | some m => exact sha_len m
def lenO : Option (List UInt8) → Nat
  | none => 0
  | some m => m.length
def Small (c : Option (List UInt8)) (n : Nat) : Prop := ∀ m, c = some m → m.length ≤ n

theorem HL.lt {B : Nat} {T : Nat → Nat} {w : World} {lv : Value} {E : List (Option (Nat × List UInt8))} (h : HL B T w lv E) (h1 : 1 ≤ E.length) : ∃ b cap, lv = .slice (some ⟨b, 0, none⟩) E.length cap ∧ E.length ≤ cap ∧ B ≤ b ∧ b < w.heap.size ∧ T b = 0 ∧
    ∀ j e, E[j]? = some e → w.cell? ⟨b, j, none⟩ = some (.pointer (pa e)) := by
  obtain ⟨hl, ⟨rfl, hn⟩ | ⟨g, cap, cur, rfl, hbg, hg, hnc, hcm, hcs', htake⟩⟩ := h.own
  · omega
  · refine ⟨g, cap, rfl, hnc, hbg, (Array.getElem?_eq_some_iff.1 hg).1, h.tag g rfl, fun j e hj => ?_⟩
    have hi := (List.getElem?_eq_some_iff.1 hj).1
    have h2 : (E.map pl)[j]? = some (.pointer (pa e)) := by rw [List.getElem?_map, hj]; rfl
    rw [cell_of_row w g _ cur _ (0, 0) hg, ← h2, ← htake, List.getElem?_take, if_pos (by omega)]
    simp
theorem HM.lt {B : Nat} {T : Nat → Nat} {w : World} {lv : Value} {E : List (Option (Nat × Value × List UInt8))} (h : HM B T w lv E) (h1 : 1 ≤ E.length) : ∃ b cap, lv = .slice (some ⟨b, 0, none⟩) E.length cap ∧ E.length ≤ cap ∧ B ≤ b ∧ b < w.heap.size ∧ T b = 1 ∧
    ∀ j e, E[j]? = some e → w.cell? ⟨b, j, none⟩ = some (.pointer (pb e)) := by
  obtain ⟨hl, ⟨rfl, hn⟩ | ⟨g, cap, cur, rfl, hbg, hg, hnc, hcm, hcs', htake⟩⟩ := h.own
  · omega
  · refine ⟨g, cap, rfl, hnc, hbg, (Array.getElem?_eq_some_iff.1 hg).1, h.tag g rfl, fun j e hj => ?_⟩
    have hi := (List.getElem?_eq_some_iff.1 hj).1
    have h2 : (E.map pm)[j]? = some (.pointer (pb e)) := by rw [List.getElem?_map, hj]; rfl
    rw [cell_of_row w g _ cur _ (0, 0) hg, ← h2, ← htake, List.getElem?_take, if_pos (by omega)]
    simp

section
variable {B : Nat} {T : Nat → Nat} {w : World} {lv mv : Value} {E : List (Option (Nat × List UInt8))} {F : List (Option (Nat × Value × List UInt8))} {j : Nat}
theorem HL.sum {e : Option (Nat × List UInt8)} (h : HL B T w lv E) (hj : E[j]? = some e) (hK : KeysAt w) (hm : Small (cL e) 1048576) :
    Calls Tryd.prog 27 #[.pointer (pa e)] w fun r w' => r = .returned (.agg (bs (shaO (cL e)))) ∧ Below w.heap.size w w' := by
  cases e with
  | none => exact hsum_nil w
  | some x =>
    obtain ⟨g, m⟩ := x
    have := hm m rfl
    exact hsum_any g m w (h.rep j g m hj).1 hK (by omega)
theorem HM.sum {e : Option (Nat × Value × List UInt8)} (h : HM B T w lv F) (hj : F[j]? = some e) (hK : RoundsAt w) (hR : RootsAt w) (h5 : 5 ≤ w.heap.size) (hm : Small (cM e) 1048576) :
    Calls Tryd.prog 28 #[.pointer (pb e)] w fun r w' => r = .returned (.agg (bs (shaO (cM e)))) ∧ Below w.heap.size w w' := by
  cases e with
  | none => exact rhsum_nil w
  | some x =>
    obtain ⟨g, v, m⟩ := x
    have := hm m rfl
    exact rhsum_any B g v m w (h.rep j g v m hj).1 (by omega) hK hR h5
theorem HL.len {e : Option (Nat × List UInt8)} (h : HL B T w lv E) (hj : E[j]? = some e) :
    Calls Tryd.prog 23 #[.pointer (pa e)] w fun r w' => r = .returned (.int .i64 (lenO (cL e))) ∧ w' = w := by
  cases e with
  | none => exact len_nil w
  | some x =>
    obtain ⟨g, m⟩ := x
    exact len_any g m w (h.rep j g m hj).1
theorem HM.len {e : Option (Nat × Value × List UInt8)} (h : HM B T w lv F) (hj : F[j]? = some e) :
    Calls Tryd.prog 24 #[.pointer (pb e)] w fun r w' => r = .returned (.int .i64 (lenO (cM e))) ∧ w' = w := by
  cases e with
  | none => exact rlen_nil w
  | some x =>
    obtain ⟨g, v, m⟩ := x
    exact rlen_any B g v m w (h.rep j g v m hj).1
def addL (l : List UInt8) (e : Option (Nat × List UInt8)) : Option (Nat × List UInt8) := e.map fun x => (x.1, x.2 ++ l)
theorem set_same {α : Type} (E : List α) (j : Nat) (e : α) (h : E[j]? = some e) : E.set j e = E := by
  apply List.ext_getElem?
  intro k
  rw [List.getElem?_set]
  by_cases hk : j = k
  · subst hk
    rw [if_pos rfl, if_pos (List.getElem?_eq_some_iff.1 h).1, h]
  · rw [if_neg hk]
theorem HL.write {e : Option (Nat × List UInt8)} (h : HL B T w lv E) (hj : E[j]? = some e) (hK : KeysAt w) (hm : Small (cL e) 1048576) (hB : 5 ≤ B) (l : List UInt8) (o cap : Nat) (hl : l.length ≤ 1048576) (hcap : l.length ≤ cap)
    (hb : Byt w (some ⟨o, 0, none⟩) l) (ho : T o = 2) :
    Calls Tryd.prog 21 #[.pointer (pa e), .slice (some ⟨o, 0, none⟩) l.length cap] w fun r w' => r = .returned (.tuple #[]) ∧ HL B (nw T w (2 * j + 4)) w' lv (E.set j (addL l e)) ∧ Fr B T (2 * j + 4) w w' := by
  cases e with
  | none =>
    refine (write_nil _ w).mono ?_
    rintro r w' ⟨rfl, rfl⟩
    have f : Fr B T (2 * j + 4) w' w' := Fr.of_below (Below.refl _ _)
    refine ⟨rfl, ?_, f⟩
    rw [show addL l none = none from rfl, set_same E j none hj]
    refine ⟨h.own, fun b hb => by rw [nw_old (World.ownsRow.lt h.own b hb).2]; exact h.tag b hb, fun k g m hk => ?_⟩
    obtain ⟨r, h1, h2⟩ := h.rep k g m hk
    exact ⟨r, h1, by rw [nw_old (rep_lt r)]; exact h2⟩
  | some x =>
    obtain ⟨g, m⟩ := x
    obtain ⟨r, h1, h2⟩ := h.rep j g m hj
    have hm' := hm m rfl
    refine (write_free g m l (some ⟨o, 0, none⟩) l.length cap w rfl r hb (fun _ b off e => by cases e; intro e; subst e; omega) hK (by omega) (by omega) (by omega) hcap).mono ?_
    rintro e w' ⟨rfl, r', bu⟩
    have f : Fr B T (2 * j + 4) w w' := Fr.of_but bu h1 h2
    exact ⟨rfl, h.set hj f r', f⟩
def addM (v : Value) (l : List UInt8) (e : Option (Nat × Value × List UInt8)) : Option (Nat × Value × List UInt8) := e.map fun x => (x.1, v, x.2.2 ++ l)
theorem HM.write {e : Option (Nat × Value × List UInt8)} (h : HM B T w mv F) (hj : F[j]? = some e) (hm : Small (cM e) 1048576) (l : List UInt8) (a : Option Addr) (cap : Nat) (hl : l.length ≤ 1048576) (hb : Byt w a l) (hB : B ≤ w.heap.size) :
    Calls Tryd.prog 22 #[.pointer (pb e), .slice a l.length cap] w fun r w' => r = .returned (.tuple #[]) ∧ ∃ v, HM B (nw T w (2 * j + 5)) w' mv (F.set j (addM v l e)) ∧ Fr B T (2 * j + 5) w w' := by
  cases e with
  | none =>
    refine (rwrite_nil _ w).mono ?_
    rintro r w' ⟨rfl, rfl⟩
    have f : Fr B T (2 * j + 5) w' w' := Fr.of_below (Below.refl _ _)
    refine ⟨rfl, .bool true, ?_, f⟩
    rw [show addM (.bool true) l none = none from rfl, set_same F j none hj]
    refine ⟨h.own, fun b hb => by rw [nw_old (World.ownsRow.lt h.own b hb).2]; exact h.tag b hb, fun k g v m hk => ?_⟩
    obtain ⟨r, h1, h2, h3⟩ := h.rep k g v m hk
    exact ⟨r, h1, by rw [nw_old r.lt]; exact h2, fun b hb => by rw [nw_old (World.ownsRow.lt r.2 b hb).2]; exact h3 b hb⟩
  | some x =>
    obtain ⟨g, v, m⟩ := x
    obtain ⟨r, h1, h2, h3⟩ := h.rep j g v m hj
    have hm' := hm m rfl
    refine (rwrite_any B g v m l a l.length cap w rfl r hb (by omega) hB).mono ?_
    rintro e w' ⟨rfl, v', r', at', tw⟩
    have f : Fr B T (2 * j + 5) w w' := tw.fr h1 h2 r h3
    exact ⟨rfl, v', h.set hj f r' at', f⟩
theorem HL.fork {e : Option (Nat × List UInt8)} (h : HL B T w lv E) (hj : E[j]? = some e) (hB : B ≤ w.heap.size) :
    Calls Tryd.prog 25 #[.pointer (pa e)] w fun r w' => ∃ x, r = .returned (.pointer (pa x)) ∧ cL x = cL e ∧ Below w.heap.size w w' ∧ ∀ g m, x = some (g, m) → Rep w' g m ∧ B ≤ g ∧ w.heap.size ≤ g := by
  cases e with
  | none =>
    refine (fork_nil w).mono ?_
    rintro r w' ⟨rfl, rfl⟩
    exact ⟨none, rfl, rfl, Below.refl _ _, fun g m e => by cases e⟩
  | some x =>
    obtain ⟨g, m⟩ := x
    refine (fork_any g m w (h.rep j g m hj).1).mono ?_
    rintro r w' ⟨rfl, r1, b1, z1⟩
    exact ⟨some (w.heap.size, m), rfl, rfl, b1, fun g m e => by cases e; exact ⟨r1, hB, Nat.le_refl _⟩⟩
theorem HM.fork {e : Option (Nat × Value × List UInt8)} (h : HM B T w mv F) (hj : F[j]? = some e) (hm : Small (cM e) 1048576) (hB : B ≤ w.heap.size) :
    Calls Tryd.prog 26 #[.pointer (pb e)] w fun r w' => ∃ x, r = .returned (.pointer (pb x)) ∧ cM x = cM e ∧ Below w.heap.size w w' ∧ ∀ g v m, x = some (g, v, m) → RR B w' g v m ∧ B ≤ g ∧ w.heap.size ≤ g ∧ ∀ b, v.ownBlock = some b → w.heap.size ≤ b := by
  cases e with
  | none =>
    refine (rfork_nil w).mono ?_
    rintro r w' ⟨rfl, rfl⟩
    exact ⟨none, rfl, rfl, Below.refl _ _, fun g v m e => by cases e⟩
  | some x =>
    obtain ⟨g, v, m⟩ := x
    have hm' := hm m rfl
    refine (rfork_any B g v m w (h.rep j g v m hj).1 (by omega) hB).mono ?_
    rintro r w' ⟨rfl, v', r1, a1, b1, z1⟩
    exact ⟨some (w.heap.size, v', m), rfl, rfl, b1, fun g v m e => by cases e; exact ⟨r1, hB, Nat.le_refl _, a1⟩⟩
end

/-! append of one pointer. -/
theorem info35' : ∃ i, Tryd.prog.info? 35 = some i ∧ i.zero = some (.pointer none) ∧ i.size = 1 ∧ i.bytes = 8 := by
  obtain ⟨i, h1, h2, h3, h4⟩ := info_parts (P := Tryd.prog) (e := 35) (z := .pointer none) (size := 1) (bytes := 8) (by kernel_rfl)
  exact ⟨i, h1, h2, h3, h4⟩
theorem info38' : ∃ i, Tryd.prog.info? 38 = some i ∧ i.zero = some (.pointer none) ∧ i.size = 1 ∧ i.bytes = 8 := by
  obtain ⟨i, h1, h2, h3, h4⟩ := info_parts (P := Tryd.prog) (e := 38) (z := .pointer none) (size := 1) (bytes := 8) (by kernel_rfl)
  exact ⟨i, h1, h2, h3, h4⟩
theorem wpList_appL {ops : Array Oper} {rest : List Oper} {o : Oper} {a : Act} {w : World} {Q : Exit → Act → World → Prop} (hgd : o.guard = none) (s x : Operand)
    (ho : o.op = .call { callee := .builtin .append, args := #[s, x], argTypes := #[37, 37] }) (B : Nat) (lv : Value) (n : Nat) (xs : List Value) (hs : a.eval s = lv) (hown : w.ownsRow B 35 1 lv n xs)
    (b c : Nat) (p : Option Addr) (hx : a.eval x = .slice (some ⟨b, 0, none⟩) 1 c) (hp : w.cell? ⟨b, 0, none⟩ = some (.pointer p)) (hn : n ≤ 1048577) (hbase : B ≤ w.heap.size)
    (h : ∀ v' w', w'.ownsRow B 35 1 v' (n + 1) (xs ++ [.pointer p]) → w.grownBy w' lv.ownBlock → (v'.ownBlock = lv.ownBlock ∨ v'.ownBlock = some w.heap.size) → wpList Tryd.prog ops Q rest (a.put o.dst v') w') : wpList Tryd.prog ops Q (o :: rest) a w := by
  obtain ⟨i, hi, hz, hs', hby⟩ := info35'
  refine wpList_append_own_at w hgd s x 37 ho B 35 i (.pointer none) 1 8 Tryd.underlying37 hi hz hs' hby rfl (by decide) lv n xs hs hown ⟨b, 0, none⟩ 1 c [.pointer p] hx rfl (fun k u hk => ?_) (fun u hu => by simp at hu; subst hu; rfl) (by unfold maxLen; omega) (by omega) hbase (fun v' w' h1 h2 _ h3 => h v' w' h1 h2 h3)
  match k, hk with
  | 0, hk =>
    simp at hk
    subst hk
    exact hp
theorem wpList_appM {ops : Array Oper} {rest : List Oper} {o : Oper} {a : Act} {w : World} {Q : Exit → Act → World → Prop} (hgd : o.guard = none) (s x : Operand)
    (ho : o.op = .call { callee := .builtin .append, args := #[s, x], argTypes := #[40, 40] }) (B : Nat) (lv : Value) (n : Nat) (xs : List Value) (hs : a.eval s = lv) (hown : w.ownsRow B 38 1 lv n xs)
    (b c : Nat) (p : Option Addr) (hx : a.eval x = .slice (some ⟨b, 0, none⟩) 1 c) (hp : w.cell? ⟨b, 0, none⟩ = some (.pointer p)) (hn : n ≤ 1048577) (hbase : B ≤ w.heap.size)
    (h : ∀ v' w', w'.ownsRow B 38 1 v' (n + 1) (xs ++ [.pointer p]) → w.grownBy w' lv.ownBlock → (v'.ownBlock = lv.ownBlock ∨ v'.ownBlock = some w.heap.size) → wpList Tryd.prog ops Q rest (a.put o.dst v') w') : wpList Tryd.prog ops Q (o :: rest) a w := by
  obtain ⟨i, hi, hz, hs', hby⟩ := info38'
  refine wpList_append_own_at w hgd s x 40 ho B 38 i (.pointer none) 1 8 Tryd.underlying40 hi hz hs' hby rfl (by decide) lv n xs hs hown ⟨b, 0, none⟩ 1 c [.pointer p] hx rfl (fun k u hk => ?_) (fun u hu => by simp at hu; subst hu; rfl) (by unfold maxLen; omega) (by omega) hbase (fun v' w' h1 h2 _ h3 => h v' w' h1 h2 h3)
  match k, hk with
  | 0, hk =>
    simp at hk
    subst hk
    exact hp

theorem which_any (n : Int) (all : Nat) (w : World) (h0 : 0 < all) (h1 : all ≤ 1048577) (hn : -9223372036854775808 ≤ n) (hn2 : n ≤ 9223372036854775807) :
    Calls Tryd.prog 20 #[.int .i64 n, .int .i64 (all : Int)] w fun e w' => (∃ i : Nat, i < all ∧ e = .returned (.int .i64 (i : Int))) ∧ w' = w := by
  have t1 : -(all : Int) < n.tmod all := by
    have := Int.lt_tmod_of_pos n (b := (all : Int)) (by omega)
    omega
  have t2 : n.tmod all < all := Int.tmod_lt_of_pos n (by omega)
  have hne : ¬ ((all : Int) = 0) := by omega
  obtain ⟨r, hr⟩ : ∃ r, r = n.tmod all := ⟨_, rfl⟩
  rw [← hr] at t1 t2
  by_cases hs : 0 ≤ r
  · obtain ⟨i, rfl⟩ : ∃ i : Nat, r = (i : Int) := ⟨r.toNat, by omega⟩
    go_enter Tryd.func20, Tryd.ntmps20
    go_wp2
    go_ret
    exact ⟨⟨i, by omega, ret_int (by omega)⟩, rfl⟩
  · obtain ⟨i, hi⟩ : ∃ i : Nat, r + all = (i : Int) := ⟨(r + all).toNat, by omega⟩
    go_enter Tryd.func20, Tryd.ntmps20
    go_wp2
    go_ret
    exact ⟨⟨i, by omega, ret_int (by omega)⟩, rfl⟩
end Go.Proofs.YtpmdlhlojifoeaaDoor

namespace Go.Proofs.YtpmdlhlojifoeaaDoor
open Go.RowKit
set_option linter.unusedVariables false
set_option linter.unusedSimpArgs false

theorem HL.below {B : Nat} {T : Nat → Nat} {w w' : World} {lv : Value} {E : List (Option (Nat × List UInt8))} (h : HL B T w lv E) (b : Below w.heap.size w w') (i : Nat) : HL B (nw T w i) w' lv E := by
  refine ⟨ownsRow_keep h.own fun c hc => b.block c (World.ownsRow.lt h.own c hc).2, fun c hc => by rw [nw_old (World.ownsRow.lt h.own c hc).2]; exact h.tag c hc, fun j g m hj => ?_⟩
  obtain ⟨r, h1, h2⟩ := h.rep j g m hj
  exact ⟨rep_of r (b.block g (rep_lt r)), h1, by rw [nw_old (rep_lt r)]; exact h2⟩
theorem HM.below {B : Nat} {T : Nat → Nat} {w w' : World} {lv : Value} {E : List (Option (Nat × Value × List UInt8))} (h : HM B T w lv E) (b : Below w.heap.size w w') (i : Nat) : HM B (nw T w i) w' lv E := by
  refine ⟨ownsRow_keep h.own fun c hc => b.block c (World.ownsRow.lt h.own c hc).2, fun c hc => by rw [nw_old (World.ownsRow.lt h.own c hc).2]; exact h.tag c hc, fun j g v m hj => ?_⟩
  obtain ⟨r, h1, h2, h3⟩ := h.rep j g v m hj
  exact ⟨r.keep (b.block g r.lt) fun c hc => b.block c (World.ownsRow.lt r.2 c hc).2, h1, by rw [nw_old r.lt]; exact h2, fun c hc => by rw [nw_old (World.ownsRow.lt r.2 c hc).2]; exact h3 c hc⟩

/-- All that is held in a round: both lists, and the step in a block of its own. -/
structure St (B : Nat) (T : Nat → Nat) (w wr : World) (g : Nat) (ob : Array Value) (lv mv : Value) (E : List (Option (Nat × List UInt8))) (F : List (Option (Nat × Value × List UInt8))) : Prop where
  l : HL B T wr lv E
  m : HM B T wr mv F
  o : wr.heap[g]? = some (.cells ob 42 (0, 0))
  og : B ≤ g
  ot : T g = 2
  b : Below B w wr
  z : B ≤ wr.heap.size
section
variable {B : Nat} {T : Nat → Nat} {w wr w' : World} {g : Nat} {ob : Array Value} {lv mv lv' mv' : Value} {E : List (Option (Nat × List UInt8))} {F : List (Option (Nat × Value × List UInt8))}
theorem St.gl (h : St B T w wr g ob lv mv E F) : g < wr.heap.size := (Array.getElem?_eq_some_iff.1 h.o).1
theorem St.below (h : St B T w wr g ob lv mv E F) (b : Below wr.heap.size wr w') (i : Nat) : St B (nw T wr i) w w' g ob lv mv E F :=
  ⟨h.l.below b i, h.m.below b i, by rw [b.block g h.gl]; exact h.o, h.og, by rw [nw_old h.gl]; exact h.ot, h.b.trans (b.mono h.z), Nat.le_trans h.z b.size⟩
theorem St.appL (h : St B T w wr g ob lv mv E F) (x : Option (Nat × List UInt8)) (hx : ∀ g m, x = some (g, m) → Rep wr g m ∧ B ≤ g ∧ T g = 2 * E.length + 4)
    (own' : w'.ownsRow B 35 1 lv' (E.length + 1) (E.map pl ++ [.pointer (pa x)])) (gr : wr.grownBy w' lv.ownBlock) (at' : lv'.ownBlock = lv.ownBlock ∨ lv'.ownBlock = some wr.heap.size) :
    St B (nw T wr 0) w w' g ob lv' mv (E ++ [x]) F := by
  obtain ⟨h1, f⟩ := h.l.app x hx own' gr at'
  exact ⟨h1, h.m.keep f (by decide), by rw [f.block g h.gl (.inr (by rw [h.ot]; decide))]; exact h.o, h.og, by rw [nw_old h.gl]; exact h.ot, h.b.trans (f.below h.z), Nat.le_trans h.z f.size⟩
theorem St.appM (h : St B T w wr g ob lv mv E F) (x : Option (Nat × Value × List UInt8)) (hx : ∀ g v m, x = some (g, v, m) → RR B wr g v m ∧ B ≤ g ∧ T g = 2 * F.length + 5 ∧ ∀ b, v.ownBlock = some b → T b = 2 * F.length + 5)
    (own' : w'.ownsRow B 38 1 mv' (F.length + 1) (F.map pm ++ [.pointer (pb x)])) (gr : wr.grownBy w' mv.ownBlock) (at' : mv'.ownBlock = mv.ownBlock ∨ mv'.ownBlock = some wr.heap.size) :
    St B (nw T wr 1) w w' g ob lv mv' E (F ++ [x]) := by
  obtain ⟨h1, f⟩ := h.m.app x hx own' gr at'
  exact ⟨h.l.keep f (by decide), h1, by rw [f.block g h.gl (.inr (by rw [h.ot]; decide))]; exact h.o, h.og, by rw [nw_old h.gl]; exact h.ot, h.b.trans (f.below h.z), Nat.le_trans h.z f.size⟩
theorem St.setL (h : St B T w wr g ob lv mv E F) {j : Nat} {E' : List (Option (Nat × List UInt8))} (h1 : HL B (nw T wr (2 * j + 4)) w' lv E') (f : Fr B T (2 * j + 4) wr w') : St B (nw T wr (2 * j + 4)) w w' g ob lv mv E' F :=
  ⟨h1, h.m.keep f (by omega), by rw [f.block g h.gl (.inr (by rw [h.ot]; omega))]; exact h.o, h.og, by rw [nw_old h.gl]; exact h.ot, h.b.trans (f.below h.z), Nat.le_trans h.z f.size⟩
theorem St.setM (h : St B T w wr g ob lv mv E F) {j : Nat} {F' : List (Option (Nat × Value × List UInt8))} (h1 : HM B (nw T wr (2 * j + 5)) w' mv F') (f : Fr B T (2 * j + 5) wr w') : St B (nw T wr (2 * j + 5)) w w' g ob lv mv E F' :=
  ⟨h.l.keep f (by omega), h1, by rw [f.block g h.gl (.inr (by rw [h.ot]; omega))]; exact h.o, h.og, by rw [nw_old h.gl]; exact h.ot, h.b.trans (f.below h.z), Nat.le_trans h.z f.size⟩
theorem St.other (h : St B T w wr g ob lv mv E F) {c : Nat} (bu : But c wr w') (hc : B ≤ c) (ht : T c = 2) (hg : g ≠ c) : St B (nw T wr 2) w w' g ob lv mv E F := by
  have f : Fr B T 2 wr w' := Fr.of_but bu hc ht
  exact ⟨h.l.keep f (.inr rfl), h.m.keep f (by decide), by rw [bu.block g h.gl hg]; exact h.o, h.og, by rw [nw_old h.gl]; exact h.ot, h.b.trans (f.below h.z), Nat.le_trans h.z f.size⟩
theorem St.inv (h : St B T w wr g ob lv mv E F) {q k : Nat} (hC : E.map cL = F.map cM) (h1 : 1 ≤ E.length) (h2 : E.length ≤ k + 1) (h3 : ∀ e, e ∈ E → Small (cL e) q) : ∃ T E F, HL B T wr lv E ∧ HM B T wr mv F ∧ E.map cL = F.map cM ∧ 1 ≤ E.length ∧ E.length ≤ k + 1 ∧ (∀ e, e ∈ E → Small (cL e) q) ∧ Below B w wr ∧ B ≤ wr.heap.size :=
  ⟨T, E, F, h.l, h.m, hC, h1, h2, h3, h.b, h.z⟩
end
theorem cells_at {w : World} {g : Nat} {x y z : Value} {t : TypeId} (h : w.heap[g]? = some (.cells #[x, y, z] t (0, 0))) : w.cell? ⟨g, 0, none⟩ = some x ∧ w.cell? ⟨g, 1, none⟩ = some y ∧ w.cell? ⟨g, 2, none⟩ = some z :=
  ⟨cell_of_row w g 0 _ _ _ h, cell_of_row w g 1 _ _ _ h, cell_of_row w g 2 _ _ _ h⟩
theorem map_at {E : List (Option (Nat × List UInt8))} {F : List (Option (Nat × Value × List UInt8))} (h : E.map cL = F.map cM) {j : Nat} {e : Option (Nat × List UInt8)} {f : Option (Nat × Value × List UInt8)} (he : E[j]? = some e) (hf : F[j]? = some f) : cL e = cM f := by
  have := congrArg (fun l => l[j]?) h
  simpa [he, hf] using this
theorem nil_alike {e : Option (Nat × List UInt8)} {f : Option (Nat × Value × List UInt8)} (h : cL e = cM f) : (pa e = none ∧ pb f = none) ∨ (∃ a b, pa e = some a ∧ pb f = some b) := by
  cases e <;> cases f <;> simp_all [cL, cM, pa, pb]
end Go.Proofs.YtpmdlhlojifoeaaDoor

