import Derived.Test.YtpmdlhlojifoeaaDoorHa
import Derived.Test.YtpmdlhlojifoeaaDoorRSum
import Derived.Test.YtpmdlhlojifoeaaDoorEq
namespace Go.Proofs.YtpmdlhlojifoeaaDoor
open Go.RowKit
set_option linter.unusedVariables false
set_option linter.unusedSimpArgs false

theorem rr_ne {B : Nat} {w : World} {h : Nat} {v : Value} {m : List UInt8} (r : RR B w h v m) : v.ownBlock ≠ some h := by
  intro e
  rcases r.2.2 with ⟨rfl, _⟩ | ⟨g, cap, cur, rfl, hbg, hg, _⟩
  · simp [Value.ownBlock] at e
  · simp [Value.ownBlock] at e
    subst e
    rw [r.1] at hg
    simp at hg
theorem run_app2 (w : World) (base : Nat) (ty : TypeId) (v : Value) (L : List UInt8) (a : Option Addr) (M : List UInt8) (c : Nat) (hown : OwnB w base v L) (hb : Byt w a M)
    (h : L.length + M.length ≤ 140737488355328) (hbase : base ≤ w.heap.size) :
    ∃ v' w', (Builtin.append_ #[26, 26] ty #[v, .slice a M.length c]).run Tryd.prog w = .ok v' w' ∧ OwnB w' base v' (L ++ M) ∧ w.grownBy w' v.ownBlock ∧ (v'.ownBlock = v.ownBlock ∨ v'.ownBlock = some w.heap.size) := by
  obtain ⟨i, hi, hz, hs, hby⟩ := info5'
  cases a with
  | some ad =>
    have hnews : ∀ j u, (byC M)[j]? = some u → w.cell? (ad.add j) = some u := fun j u hj => by
      obtain ⟨h1, rfl⟩ := byC_get _ j u hj
      rcases hb with rfl | ⟨b, off, e, hc⟩
      · simp at h1
      · cases e
        rw [Addr.add_mid]
        exact hc j h1
    obtain ⟨v', w', hr, h2, h3, _, h5⟩ := run_append_own_at (P := Tryd.prog) w base 26 ty 5 i (.int .u8 0) 1 1 Tryd.underlying26 hi hz hs hby rfl (by decide) v L.length (byC L) hown ad M.length c (byC M) (by rw [byC_len]; omega) hnews (byC_one _) (by unfold maxLen; omega) (by omega) hbase
    refine ⟨v', w', hr, ?_, h3, h5⟩
    unfold OwnB
    rw [List.length_append, show byC (L ++ M) = byC L ++ byC M by simp [byC]]
    exact h2
  | none =>
    obtain rfl : M = [] := by
      rcases hb with rfl | ⟨b, off, e, _⟩
      · rfl
      · cases e
    rcases hown.2 with ⟨rfl, hn⟩ | ⟨g, cap, cur, rfl, hbg, hg, hnc, rest⟩
    · refine ⟨.slice none 0 0, w, ?_, by rw [List.append_nil]; exact hown, ⟨rfl, rfl, rfl, Nat.le_refl _, fun _ _ _ => rfl⟩, .inl rfl⟩
      simp [Builtin.append_, run_underlying Tryd.underlying26, sizeOf, typeInfo, hi, Builtin.lenOf, Builtin.firstCells, loadCells, loadCellsFrom]
    · refine ⟨.slice (some ⟨g, 0, none⟩) L.length cap, w, ?_, by rw [List.append_nil]; exact hown, ⟨rfl, rfl, rfl, Nat.le_refl _, fun _ _ _ => rfl⟩, .inl rfl⟩
      simp [Builtin.append_, run_underlying Tryd.underlying26, sizeOf, typeInfo, hi, Builtin.lenOf, Builtin.firstCells, hnc, storeCells]
theorem wpList_app2 {ops : Array Oper} {rest : List Oper} {o : Oper} {a : Act} {w : World} {Q : Exit → Act → World → Prop} (hgd : o.guard = none) (s x : Operand)
    (ho : o.op = .call { callee := .builtin .append, args := #[s, x], argTypes := #[26, 26] }) (base : Nat) (v : Value) (L : List UInt8) (hs : a.eval s = v) (hown : OwnB w base v L)
    (aa : Option Addr) (m c : Nat) (M : List UInt8) (hx : a.eval x = .slice aa m c) (hm : M.length = m) (hb : Byt w aa M) (hlen : L.length + M.length ≤ 140737488355328) (hbase : base ≤ w.heap.size)
    (h : ∀ v' w', OwnB w' base v' (L ++ M) → w.grownBy w' v.ownBlock → (v'.ownBlock = v.ownBlock ∨ v'.ownBlock = some w.heap.size) → wpList Tryd.prog ops Q rest (a.put o.dst v') w') : wpList Tryd.prog ops Q (o :: rest) a w :=
  wpList_plain hgd fun _ hK => by
    subst hm
    obtain ⟨v', w', hr, h2, h3, h4⟩ := run_app2 w base o.type v L aa M c hown hb hlen hbase
    unfold Oper.wp execOp
    simp only [ho, resolve, invoke, builtin, Sem.run_bind, Sem.run_pure, Result.andThen_ok, List.map_toArray, List.map_cons, List.map_nil, hs, hx, hr]
    exact hK _ _ (h v' w' h2 h3 h4)

/-- All is as it was, but for a Hasher of the reference. -/
structure Two (h : Nat) (v : Value) (w w' : World) : Prop where
  os : w'.os = w.os
  tape : w'.tape = w.tape
  output : w'.output = w.output
  size : w.heap.size ≤ w'.heap.size
  block : ∀ k, k < w.heap.size → k ≠ h → some k ≠ v.ownBlock → w'.heap[k]? = w.heap[k]?
theorem Two.fr {B : Nat} {T : Nat → Nat} {i h : Nat} {v : Value} {m : List UInt8} {w w' : World} (t : Two h v w w') (hB : B ≤ h) (ht : T h = i) (r : RR B w h v m) (hv : ∀ b, v.ownBlock = some b → T b = i) : Fr B T i w w' :=
  ⟨t.os, t.tape, t.output, t.size, fun k hk hn => t.block k hk (fun e => by subst e; rcases hn with hn | hn; omega; exact hn ht) (fun e => by
    have := (World.ownsRow.lt r.2 k e.symm).1
    rcases hn with hn | hn
    · omega
    · exact hn (hv k e.symm))⟩
theorem ri64 : (Tryd.prog.info? 64).map (·.size) = some 1 := by kernel_rfl

set_option maxHeartbeats 800000 in
theorem rwrite_any (B h : Nat) (v : Value) (m l : List UInt8) (a : Option Addr) (len cap : Nat) (w : World) (hlen : l.length = len) (r : RR B w h v m) (hb : Byt w a l) (hl : m.length + l.length ≤ 140737488355328) (hB : B ≤ w.heap.size) :
    Calls Tryd.prog 22 #[.pointer (some ⟨h, 0, none⟩), .slice a len cap] w fun e w' => e = .returned (.tuple #[]) ∧ ∃ v', RR B w' h v' (m ++ l) ∧ (v'.ownBlock = v.ownBlock ∨ ∃ b, v'.ownBlock = some b ∧ w.heap.size ≤ b) ∧ Two h v w w' := by
  obtain ⟨av, cv, hv, hcv, byv, hav⟩ := r.2.open
  subst hv
  clear hcv byv hav
  have q0 : w.cell? ⟨h, 0, none⟩ = some (.slice av m.length cv) := cell_of_row w h 0 _ _ _ r.1
  have f0 := frozen_of_row w h 0 _ _ r.1
  have HR : Hid (OwnB w B (.slice av m.length cv) m) := r.2
  have HBy : Hid (Byt w a l) := hb
  have HLn : Hid (l.length = len) := hlen
  have ne := rr_ne r
  have hh := r.lt
  have r1 := r.1
  clear hb hlen
  go_enter Tryd.func22, Tryd.ntmps22
  go_wp2_with (first | (at_builtin; refine wpList_app2 rfl (.tmp 10) (.tmp 11) rfl B (.slice av m.length cv) m rfl HR.out a len cap l rfl HLn.out HBy.out hl hB ?_) | fail)
  intro v' w1 own' gr at'
  have e1 : w1.heap[h]? = some (.cells #[.slice av m.length cv] 64 (0, 0)) := (gr.block h hh (fun e => ne e.symm)).trans r1
  have f1 := frozen_of_row w1 h 0 _ _ e1
  have q1 : w1.cell? ⟨h, 0, none⟩ = some (.slice av m.length cv) := cell_of_row w1 h 0 _ _ _ e1
  have HP : Hid (RR B (w1.setCell ⟨h, 0, none⟩ v') h v' (m ++ l) ∧ (v'.ownBlock = (Value.slice av m.length cv).ownBlock ∨ ∃ b, v'.ownBlock = some b ∧ w.heap.size ≤ b) ∧ Two h (.slice av m.length cv) w (w1.setCell ⟨h, 0, none⟩ v')) := by
    refine ⟨⟨?_, ownsRow_keep own' fun g hg => Below.heap_setCell _ _ _ _ (fun e => ?_)⟩, ?_, gr.os, gr.tape, gr.output, ?_, fun k hk hn hv => ?_⟩
    · rw [heap_setCell_same w1 h 0 _ 64 _ e1]
      rfl
    · subst e
      rcases at' with e | e
      · exact ne (e.symm.trans hg)
      · rw [e] at hg; cases hg; omega
    · rcases at' with e | e
      · exact .inl e
      · exact .inr ⟨_, e, Nat.le_refl _⟩
    · simpa [World.setCell] using gr.size
    · rw [Below.heap_setCell _ _ _ _ hn]; exact gr.block k hk hv
  obtain ⟨av', cv', hv', _⟩ := own'.open
  clear own' gr at' e1 r r1 HR HBy ne
  obtain ⟨ML, hML⟩ : ∃ ML, ML = m ++ l := ⟨_, rfl⟩
  rw [← hML] at HP hv'
  have HML : Hid (ML = m ++ l) := hML
  clear hML
  subst hv'
  go_wp2
  go_end0
  exact ⟨rfl, _, by rw [← HML.out]; exact HP.out⟩
theorem rwrite_nil (a : Value) (w : World) : Calls Tryd.prog 22 #[.pointer none, a] w fun e w' => e = .returned (.tuple #[]) ∧ w' = w := by
  go_enter Tryd.func22, Tryd.ntmps22
  go_wp2
  go_end0
  exact ⟨rfl, rfl⟩
theorem write_nil (a : Value) (w : World) : Calls Tryd.prog 21 #[.pointer none, a] w fun e w' => e = .returned (.tuple #[]) ∧ w' = w := by
  go_enter Tryd.func21, Tryd.ntmps21
  go_wp2
  exact bodyPost_ret (v := .tuple #[]) (by simp [results, Tryd.results21]) rfl ⟨rfl, rfl⟩
theorem len_nil (w : World) : Calls Tryd.prog 23 #[.pointer none] w fun e w' => e = .returned (.int .i64 0) ∧ w' = w := by
  go_enter Tryd.func23, Tryd.ntmps23
  go_wp2
  go_ret
  exact ⟨rfl, rfl⟩
theorem rlen_nil (w : World) : Calls Tryd.prog 24 #[.pointer none] w fun e w' => e = .returned (.int .i64 0) ∧ w' = w := by
  go_enter Tryd.func24, Tryd.ntmps24
  go_wp2
  go_ret
  exact ⟨rfl, rfl⟩
theorem fork_nil (w : World) : Calls Tryd.prog 25 #[.pointer none] w fun e w' => e = .returned (.pointer none) ∧ w' = w := by
  go_enter Tryd.func25, Tryd.ntmps25
  go_wp2
  go_ret
  exact ⟨rfl, rfl⟩
theorem rfork_nil (w : World) : Calls Tryd.prog 26 #[.pointer none] w fun e w' => e = .returned (.pointer none) ∧ w' = w := by
  go_enter Tryd.func26, Tryd.ntmps26
  go_wp2
  go_ret
  exact ⟨rfl, rfl⟩
theorem res28 (tmps : Array Value) (w : World) (g : Nat) (t : TypeId) (l : List UInt8) (hl : l.length = 32) (fr : Nat × Nat) (hp : tmps.getD 2 undef = .pointer (some ⟨g, 0, none⟩)) (hg : w.heap[g]? = some (.cells (bs l) t fr)) :
    (results Tryd.f28 tmps).run Tryd.prog w = .ok (.agg (bs l)) w :=
  results_cell_row Tryd.results28 tmps w g t (bs l) fr _ hp hg Tryd.underlying24 rfl (by rw [bs_size, hl]; exact hs24)
theorem wpList_build_none {P : Program} {ops : Array Oper} {rest : List Oper} {o : Oper} {a : Act} {w : World} {Q : Exit → Act → World → Prop} (hgd : o.guard = none) (ty : TypeId) (ho : o.op = .build ty #[])
    (Z : Array Value) (hz : P.built ty [] = some Z)
    (h : wpList P ops Q rest (a.put o.dst (.agg Z)) w) : wpList P ops Q (o :: rest) a w := by
  refine wpList_build hgd ty #[] ho (by simp [hz]) ?_
  simpa [hz] using h
theorem hsum_nil (w : World) : Calls Tryd.prog 27 #[.pointer none] w fun e w' => e = .returned (.agg (bs z32)) ∧ Below w.heap.size w w' := by
  have hq0 : (w.alloc (.cells (bs z32) 24)).heap[w.heap.size]? = some (.cells (bs z32) 24 (0, 0)) := heap_alloc_new _ _
  have hb0 : Below w.heap.size w (w.alloc (.cells (bs z32) 24)) := (Below.refl _ _).alloc (Nat.le_refl _) _
  go_enter Tryd.func27, Tryd.ntmps27
  go_wp2_with (first | (refine wpList_alloc_row rfl 24 rfl (bs z32) (hz24 _) ?_) | (refine wpList_build_none rfl 24 rfl (bs z32) hb24 ?_) | (refine wpList_store_row rfl 24 (.tmp 2) (.tmp 10) rfl w.heap.size (bs z32) rfl rfl 24 (bs z32) hq0 hs24 rfl (bs_one _) ?_))
  exact bodyPost_ret (res27 _ _ w.heap.size 24 z32 rfl (0, 0) rfl (setRow_heap _ _ _ _ _ _ hq0)) rfl ⟨rfl, hb0.trans (below_setRow _ _ _ _ (Nat.le_refl _))⟩
theorem rhsum_nil (w : World) : Calls Tryd.prog 28 #[.pointer none] w fun e w' => e = .returned (.agg (bs z32)) ∧ Below w.heap.size w w' := by
  have hq0 : (w.alloc (.cells (bs z32) 24)).heap[w.heap.size]? = some (.cells (bs z32) 24 (0, 0)) := heap_alloc_new _ _
  have hb0 : Below w.heap.size w (w.alloc (.cells (bs z32) 24)) := (Below.refl _ _).alloc (Nat.le_refl _) _
  go_enter Tryd.func28, Tryd.ntmps28
  go_wp2_with (first | (refine wpList_alloc_row rfl 24 rfl (bs z32) (hz24 _) ?_) | (refine wpList_build_none rfl 24 rfl (bs z32) hb24 ?_) | (refine wpList_store_row rfl 24 (.tmp 2) (.tmp 5) rfl w.heap.size (bs z32) rfl rfl 24 (bs z32) hq0 hs24 rfl (bs_one _) ?_))
  exact bodyPost_ret (res28 _ _ w.heap.size 24 z32 rfl (0, 0) rfl (setRow_heap _ _ _ _ _ _ hq0)) rfl ⟨rfl, hb0.trans (below_setRow _ _ _ _ (Nat.le_refl _))⟩
theorem rnew_any (B : Nat) (w : World) : Calls Tryd.prog 19 #[] w fun e w' => e = .returned (.pointer (some ⟨w.heap.size, 0, none⟩)) ∧ w' = w.alloc (.cells #[.slice none 0 0] 64) := by
  go_enter Tryd.func19, Tryd.ntmps19
  go_wp2
  go_ret
  exact ⟨rfl, rfl⟩
theorem rr_new (B : Nat) (w : World) : RR B (w.alloc (.cells #[.slice none 0 0] 64)) w.heap.size (.slice none 0 0) [] := ⟨heap_alloc_new _ _, ownB_nil _ _⟩
theorem rlen_any (B h : Nat) (v : Value) (m : List UInt8) (w : World) (r : RR B w h v m) : Calls Tryd.prog 24 #[.pointer (some ⟨h, 0, none⟩)] w fun e w' => e = .returned (.int .i64 (m.length : Int)) ∧ w' = w := by
  obtain ⟨av, cv, hv, hcv, byv, hav⟩ := r.2.open
  subst hv
  have q0 : w.cell? ⟨h, 0, none⟩ = some (.slice av m.length cv) := cell_of_row w h 0 _ _ _ r.1
  clear r hcv byv hav
  go_enter Tryd.func24, Tryd.ntmps24
  go_wp2
  go_ret
  exact ⟨rfl, rfl⟩
theorem rhsum_any (B h : Nat) (v : Value) (m : List UInt8) (w : World) (r : RR B w h v m) (hl : m.length ≤ 140737488355200) (hK : RoundsAt w) (hF : RootsAt w) (h5 : 5 ≤ w.heap.size) :
    Calls Tryd.prog 28 #[.pointer (some ⟨h, 0, none⟩)] w fun e w' => e = .returned (.agg (bs (sha m))) ∧ Below w.heap.size w w' := by
  obtain ⟨av, cv, hv, hcv, byv, hav⟩ := r.2.open
  subst hv
  have b0 : Below w.heap.size w (w.alloc (.cells (bs z32) 24)) := (Below.refl _ _).alloc (Nat.le_refl _) _
  have g0 : (w.alloc (.cells (bs z32) 24)).heap[w.heap.size]? = some (.cells (bs z32) 24 (0, 0)) := heap_alloc_new _ _
  have q0 : (w.alloc (.cells (bs z32) 24)).cell? ⟨h, 0, none⟩ = some (.slice av m.length cv) := (b0.cell (p := ⟨h, 0, none⟩) r.lt).trans (cell_of_row w h 0 _ _ _ r.1)
  have by0 := byt_below byv b0
  have z0 := b0.size
  have LS : (sha m).length = 32 := sha_len m
  clear r hcv hav byv
  go_enter Tryd.func28, Tryd.ntmps28
  go_wp2_with (first | (refine wpList_alloc_row rfl 24 rfl (bs z32) (hz24 _) ?_) | fail)
  have k0 := roundsAt_below hK h5 b0
  have f0 := rootsAt_below hF h5 b0
  generalize (w.alloc (.cells (bs z32) 24)) = W0 at *
  refine (rsum_any av m m.length cv W0 rfl by0 hl k0 f0 (by omega)).mono ?_
  rintro e w1 ⟨rfl, b1⟩
  have g1 : w1.heap[w.heap.size]? = some (.cells (bs z32) 24 (0, 0)) := by rw [b1.block _ (Array.getElem?_eq_some_iff.1 g0).1]; exact g0
  have b2 : Below w.heap.size w w1 := b0.trans (b1.mono (by omega))
  clear by0 k0 f0 q0 b1 b0 g0
  go_wp2_with (first | (refine wpList_store_row rfl 24 (.tmp 2) (.tmp 10) rfl w.heap.size (bs (sha m)) rfl rfl 24 (bs z32) g1 (by rw [bs_size, LS]; exact hs24) (by rw [bs_size, bs_size, LS]; rfl) (bs_one _) ?_))
  exact bodyPost_ret (res28 _ _ w.heap.size 24 (sha m) LS (0, 0) rfl (setRow_heap _ _ _ _ _ _ g1)) rfl ⟨rfl, b2.trans (below_setRow _ _ _ _ (Nat.le_refl _))⟩
theorem rfork_any (B h : Nat) (v : Value) (m : List UInt8) (w : World) (r : RR B w h v m) (hl : m.length ≤ 140737488355200) (hB : B ≤ w.heap.size) :
    Calls Tryd.prog 26 #[.pointer (some ⟨h, 0, none⟩)] w fun e w' => e = .returned (.pointer (some ⟨w.heap.size, 0, none⟩)) ∧ ∃ v', RR B w' w.heap.size v' m ∧ (∀ b, v'.ownBlock = some b → w.heap.size ≤ b) ∧ Below w.heap.size w w' ∧ w.heap.size < w'.heap.size := by
  obtain ⟨av, cv, hv, hcv, byv, hav⟩ := r.2.open
  subst hv
  have q0 : (w.alloc (.cells #[.slice none 0 0] 64)).cell? ⟨h, 0, none⟩ = some (.slice av m.length cv) := ((Below.refl w.heap.size w).alloc (Nat.le_refl _) (.cells #[.slice none 0 0] 64)).cell (p := ⟨h, 0, none⟩) r.lt |>.trans (cell_of_row w h 0 _ _ _ r.1)
  clear hcv hav
  go_enter Tryd.func26, Tryd.ntmps26
  go_wp2_with fail
  refine (rnew_any B w).mono ?_
  rintro e w1 ⟨rfl, rfl⟩
  have b1 : Below w.heap.size w (w.alloc (.cells #[.slice none 0 0] 64)) := (Below.refl _ _).alloc (Nat.le_refl _) _
  have n1 := rr_new w.heap.size w
  have z1 : w.heap.size < (w.alloc (.cells #[.slice none 0 0] 64)).heap.size := by simp
  have by1 := byt_below byv b1
  generalize (w.alloc (.cells #[.slice none 0 0] 64)) = W1 at *
  go_wp2_with fail
  refine (rwrite_any w.heap.size w.heap.size (.slice none 0 0) [] m av m.length cv W1 rfl n1 by1 (by simp; omega) (by omega)).mono ?_
  rintro e w2 ⟨rfl, v', r2, at2, t2⟩
  have z2 := t2.size
  have HP : Hid (∃ v', RR B w2 w.heap.size v' m ∧ (∀ b, v'.ownBlock = some b → w.heap.size ≤ b) ∧ Below w.heap.size w w2 ∧ w.heap.size < w2.heap.size) := by
    refine ⟨v', ⟨r2.1, ?_⟩, fun b hb => (World.ownsRow.lt r2.2 b hb).1, b1.trans ⟨t2.os, t2.tape, t2.output, t2.size, fun k hk => t2.block k (by omega) (by omega) (by simp [Value.ownBlock])⟩, by omega⟩
    obtain ⟨o1, o2⟩ := r2.2
    refine ⟨o1, ?_⟩
    rcases o2 with hn | ⟨g, cap, cur, e, hbg, rest⟩
    · exact .inl hn
    · exact .inr ⟨g, cap, cur, e, by omega, rest⟩
  clear r2 t2 at2 b1 n1 by1 byv
  go_wp2
  go_ret
  exact ⟨rfl, HP.out⟩
end Go.Proofs.YtpmdlhlojifoeaaDoor
