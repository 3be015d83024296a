import Derived.Test.YtldlljobofnmmaaDoorP6
import Derived.Test.YtldlljobofnmmaaDoorP0
import Derived.Test.YtldlljobofnmmaaDoorP5
import Derived.Test.YtldlljobofnmmaaDoorP4
import Derived.SizedLaws
set_option maxRecDepth 100000
set_option maxHeartbeats 4000000
namespace Go.Proofs.YtldlljobofnmmaaDoor
open Go.RowKit Go.Shelf
set_option linter.unusedVariables false
set_option linter.unusedSimpArgs false
structure FkP (w : World) (base : Nat) (s : Rs) (t2 bp2 bk2 r : Nat) (W : World) (P' : PLs) (T : List (PlK × Value)) : Prop where
  it : M.Iter W s.bp r PlK.v (entP s.P) T
  m : RgM W base ⟨t2, bp2, bk2, P', [], s.last⟩
  bel : Below w.heap.size w W
  cp : CpP s.P P' T
structure FkK (w : World) (base : Nat) (s : Rs) (t2 bp2 bk2 r : Nat) (P' : PLs) (W : World) (K' : KLs) (T : List (IdK × Value)) : Prop where
  it : M.Iter W s.bk r IdK.v (entK s.K) T
  m : RgM W base ⟨t2, bp2, bk2, P', K', s.last⟩
  bel : Below w.heap.size w W
  cp : CpK s.K K' T
  ab : ∀ q ∈ K', r < q.2.1
structure FkB (w : World) (t2 bp2 bk2 r : Nat) : Prop where
  rr : w.heap.size ≤ r
  t : w.heap.size ≤ t2 ∧ t2 < r
  p : w.heap.size ≤ bp2 ∧ bp2 < r
  k : w.heap.size ≤ bk2 ∧ bk2 < r
theorem iter_lt {κ : Type} {w : World} {b r : Nat} {enc : κ → Value} {E T : List (κ × Value)} (h : M.Iter w b r enc E T) : b < w.heap.size ∧ r < w.heap.size := by
  obtain ⟨⟨_, _, _, _, h1⟩, _, _, h2⟩ := iter_r h
  exact ⟨(Array.getElem?_eq_some_iff.1 h2).1, (Array.getElem?_eq_some_iff.1 h1).1⟩
theorem RgM.itOff {W : World} {base : Nat} {s : Rs} (m : RgM W base s) {κ : Type} {b r : Nat} {enc : κ → Value} {E T : List (κ × Value)} (it : M.Iter W b r enc E T) {q : PlK × (Value × List EnV)} (hq : q ∈ s.P) {k : Nat} (hk : q.2.1.ownBlock = some k) : k ≠ r := fun e => by
  obtain ⟨_, c, hc⟩ := (m.en q hq).1.cells hk
  obtain ⟨⟨_, _, _, _, hr⟩, _⟩ := iter_r it
  rw [e, hr] at hc
  cases hc
section
variable {w W : World} {base : Nat} {s : Rs} {t2 bp2 bk2 r : Nat} {P' : PLs} {K' : KLs}
theorem FkP.bls (h : FkB w t2 bp2 bk2 r) : ∀ j ∈ Rs.bl ⟨t2, bp2, bk2, P', [], s.last⟩, w.heap.size ≤ j ∧ j < r := fun j hj => by
  simp only [Rs.bl, List.map_nil, List.mem_cons, List.not_mem_nil, or_false] at hj
  rcases hj with rfl | rfl | rfl
  · exact h.t
  · exact h.p
  · exact h.k
theorem FkP.next {T : List (PlK × Value)} (h : FkP w base s t2 bp2 bk2 r W P' T) (fb : FkB w t2 bp2 bk2 r) {A B : List (PlK × Value)} {p : PlK × Value} (hT : T = A ++ p :: B) {w5 w7 : World} (it5 : M.Iter w5 s.bp r PlK.v (entP s.P) (A ++ B)) (t5 : Tch (fun j => j = r) W w5) (b7 : Below w5.heap.size w5 w7) :
    M.Iter w7 s.bp r PlK.v (entP s.P) (A ++ B) ∧ RgM w7 base ⟨t2, bp2, bk2, P', [], s.last⟩ ∧ Below w.heap.size w w7 := by
  have l5 := iter_lt it5
  have bel5 : Below w.heap.size w w5 := h.bel.trans (t5.below h.bel.size (fun j e => by rw [e]; exact fb.rr))
  refine ⟨it5.same (b7.block _ l5.1) (b7.block _ l5.2), RgM.below ?_ b7, bel5.trans (b7.mono bel5.size)⟩
  exact h.m.keep (fun k hk => t5.block k (h.m.lt k hk) (fun e => by have := FkP.bls (P' := P') (s := s) fb k hk; omega)) (fun q hq k hk => t5.block k ((h.m.en q hq).1.lt hk) (h.m.itOff h.it hq hk))
theorem FkK.bls (h : FkB w t2 bp2 bk2 r) (ab : ∀ q ∈ K', r < q.2.1) : ∀ j ∈ Rs.bl ⟨t2, bp2, bk2, P', K', s.last⟩, w.heap.size ≤ j ∧ j ≠ r := fun j hj => by
  simp only [Rs.bl, List.mem_cons] at hj
  rcases hj with rfl | rfl | rfl | hj
  · exact ⟨h.t.1, by have := h.t.2; omega⟩
  · exact ⟨h.p.1, by have := h.p.2; omega⟩
  · exact ⟨h.k.1, by have := h.k.2; omega⟩
  · obtain ⟨q, hq, rfl⟩ := List.mem_map.1 hj
    have := ab q hq
    have := h.rr
    exact ⟨by omega, by omega⟩
theorem FkK.next {T : List (IdK × Value)} (h : FkK w base s t2 bp2 bk2 r P' W K' T) (fb : FkB w t2 bp2 bk2 r) {A B : List (IdK × Value)} {p : IdK × Value} (hT : T = A ++ p :: B) {w5 w7 : World} (it5 : M.Iter w5 s.bk r IdK.v (entK s.K) (A ++ B)) (t5 : Tch (fun j => j = r) W w5) (b7 : Below w5.heap.size w5 w7) :
    M.Iter w7 s.bk r IdK.v (entK s.K) (A ++ B) ∧ RgM w7 base ⟨t2, bp2, bk2, P', K', s.last⟩ ∧ Below w.heap.size w w7 := by
  have l5 := iter_lt it5
  have bel5 : Below w.heap.size w w5 := h.bel.trans (t5.below h.bel.size (fun j e => by rw [e]; exact fb.rr))
  refine ⟨it5.same (b7.block _ l5.1) (b7.block _ l5.2), RgM.below ?_ b7, bel5.trans (b7.mono bel5.size)⟩
  exact h.m.keep (fun k hk => t5.block k (h.m.lt k hk) (FkK.bls (P' := P') (s := s) fb h.ab k hk).2) (fun q hq k hk => t5.block k ((h.m.en q hq).1.lt hk) (h.m.itOff h.it hq hk))
theorem FkP.did {T : List (PlK × Value)} (hs : RgM w base s) (h : FkP w base s t2 bp2 bk2 r W P' T) (fb : FkB w t2 bp2 bk2 r) {A B : List (PlK × Value)} {p : PlK × Value} (hT : T = A ++ p :: B) {w8 : World} (it8 : M.Iter w8 s.bp r PlK.v (entP s.P) (A ++ B)) (m8 : RgM w8 base ⟨t2, bp2, bk2, P', [], s.last⟩) (bel8 : Below w.heap.size w w8) {q0 : PlK × (Value × List EnV)} (hq0 : q0 ∈ s.P) (e0 : q0.1 = p.1) (hpo : p.1.ok) {la : Option Addr} {n c : Nat} (elv : q0.2.1 = .slice la n c) (hn : q0.2.2.length = n) :
    ∃ w9, (Instr.mapUpdate 81 (.map (some bp2)) p.1.v (.slice la n n)).run Tryd.prog w8 = .ok () w9 ∧ FkP w base s t2 bp2 bk2 r w9 (M.put P' p.1 (.slice la n n, q0.2.2)) (A ++ B) := by
  obtain ⟨ob, ep, mp⟩ := M.run_put (P := Tryd.prog) plKey Tryd.underlying81 m8.pl p.1 hpo (.slice la n n)
  have en0 := hs.en q0 hq0
  obtain ⟨v', hv', lo', ob'⟩ := RowT.Lo.cut RN_is en0.2.2 (en0.1.below bel8) (n := n) (by omega)
  have ev' := hv' la c (by rw [elv, hn])
  subst ev'
  rw [List.take_of_length_le (by omega)] at lo'
  have lts : s.bp < w.heap.size := hs.lt _ (by simp [Rs.bl])
  have hp := fb.p
  have cp := h.cp
  rw [hT] at cp
  refine ⟨_, ep, it8.same (M.setM_other ob (show s.bp ≠ bp2 by omega)) (M.setM_other ob (show r ≠ bp2 by omega)), m8.setP (fun j hj => M.setM_other ob hj) mp (lo'.keep (fun k hk => M.setM_other ob ?_)) en0.2.1 en0.2.2 (fun q hq hne e => ?_), M.setM_below ob bel8 fb.p.1, cp.cut hs.places m8.places hq0 e0 elv ob'⟩
  · have := en0.1.lt (ob' ▸ hk)
    show k ≠ bp2
    omega
  · obtain ⟨q1, hq1, k1, _, k3, _⟩ := cp.c1 q hq
    have : q1 = q0 := nodup_injG (·.2.1.ownBlock) hs.ead q1 hq1 q0 hq0 (by
      show q1.2.1.ownBlock = q0.2.1.ownBlock
      rw [← k3, e, ob'])
    subst this
    exact hne (k1.symm.trans e0)
theorem FkK.did {T : List (IdK × Value)} (hs : RgM w base s) (hB : base ≤ w.heap.size) (h : FkK w base s t2 bp2 bk2 r P' W K' T) (fb : FkB w t2 bp2 bk2 r) {A B : List (IdK × Value)} {p : IdK × Value} (hT : T = A ++ p :: B) {w8 : World} (it8 : M.Iter w8 s.bk r IdK.v (entK s.K) (A ++ B)) (m8 : RgM w8 base ⟨t2, bp2, bk2, P', K', s.last⟩) (bel8 : Below w.heap.size w w8) {b0 : Nat} {l : List ByteArray} (hpR : (p.1, (b0, l)) ∈ s.K) (hpo : p.1.ok) :
    ∃ w9 w10, Calls Tryd.prog 46 #[.map (some b0)] w8 (fun e w' => e = .returned (.map (some w8.heap.size)) ∧ w' = w9) ∧ Below w8.heap.size w8 w9 ∧ (Instr.mapUpdate 82 (.map (some bk2)) p.1.v (.map (some w8.heap.size))).run Tryd.prog w9 = .ok () w10 ∧ FkK w base s t2 bp2 bk2 r P' w10 (M.put K' p.1 (w8.heap.size, l)) (A ++ B) := by
  obtain ⟨w9, C9, m9, b9, z9⟩ := clone_keys ((hs.below bel8).kr _ hpR)
  have h9 := m8.below b9
  have bel9 := bel8.trans (b9.mono bel8.size)
  obtain ⟨ob, ep, mp⟩ := M.run_put (P := Tryd.prog) idKey Tryd.underlying82 h9.kl p.1 hpo (.map (some w8.heap.size))
  have nb : w8.heap.size ∉ Rs.bl ⟨t2, bp2, bk2, P', K', s.last⟩ := fun hj => by have := m8.lt _ hj; omega
  have ne1 : w8.heap.size ≠ bk2 := fun e => nb (by simp [Rs.bl, e])
  have l8 := iter_lt it8
  have lts : s.bk < w.heap.size := hs.lt _ (by simp [Rs.bl])
  have hk := fb.k
  have cp := h.cp
  rw [hT] at cp
  refine ⟨w9, _, C9, b9, ep, (it8.same (b9.block _ l8.1) (b9.block _ l8.2)).same (M.setM_other ob (show s.bk ≠ bk2 by omega)) (M.setM_other ob (show r ≠ bk2 by omega)), h9.newRow (cp.d4 p (by simp)) nb (by have := bel8.size; omega) (fun j _ hj => M.setM_other ob hj) mp (m9.below (M.setM_other ob ne1)), M.setM_below ob bel9 fb.k.1, cp.step hs.keys m8.keys hpR _, fun q hq => ?_⟩
  rcases put_memG m8.keys hq with rfl | ⟨hq, _⟩
  · exact l8.2
  · exact h.ab q hq
end
set_option maxHeartbeats 8000000 in
theorem fork_any {w : World} {base : Nat} {s : Rs} {H : List Rec} (h : RgAt w base s H) (hB : base ≤ w.heap.size) :
    Calls Tryd.prog 13 #[.pointer (some ⟨s.r, 0, none⟩)] w fun e w' => ∃ s2 : Rs, e = .returned (.pointer (some ⟨s2.r, 0, none⟩)) ∧ FkE w base s H s2 w' := by
  have HH := hidMk h
  have HB := hidMk (fun (W : World) (b : Below w.heap.size w W) => h.mem.below b)
  clear h
  go_enter Tryd.func13, Tryd.ntmps13
  go_upto_region 3 with fail
  have bd : Below w.heap.size w w.drew := (Below.refl _ _).drew
  obtain ⟨w1, C1, m1, b1, z1⟩ := clone_places (HB.out _ bd).pl
  replace m1 : M.MapAt w1 w.heap.size PlK.v PlK.ok (entP s.P) := m1
  replace z1 : w1.heap.size = w.heap.size + 1 := z1
  have b01 : Below w.heap.size w w1 := bd.trans (b1.mono bd.size)
  refine fk3 (r := s.r) (mb := s.bp) (kb := s.bk) (cb := w.heap.size) (n := s.K.length) (la := s.last) (fun W => Below w.heap.size w W) (fun pv W => ∃ bp2 bk2 t2, pv = .pointer (some ⟨t2, 0, none⟩) ∧ RgM W base ⟨t2, bp2, bk2, s.P, [], s.last⟩ ∧ Below w.heap.size w W ∧ FkB w t2 bp2 bk2 W.heap.size) _ w _ rfl rfl bd ?_ ?_ ?_ ?_ (fun eb W => build_rg _ _ _ W) ?_ ?_
  · intro W hW
    have := (HB.out W hW).c0
    go_simp
  · intro W hW
    have := (HB.out W hW).c1
    go_simp
  · intro W hW
    have := (HB.out W hW).c2
    go_simp
  · intro W hW
    have := M.run_mlen (P := Tryd.prog) (ty := 3) Tryd.underlying82 (HB.out _ hW).kl
    rw [entK, M.onV_len] at this
    exact this
  · refine C1.mono ?_
    rintro e W ⟨rfl, rfl⟩
    have b2 : Below W.heap.size W (W.alloc (.map #[] 0)) := (Below.refl _ _).alloc (Nat.le_refl _) _
    have m2 : M.MapAt (W.alloc (.map #[] 0)) W.heap.size IdK.v IdK.ok (entK []) := M.MapAt.new W IdK.v IdK.ok
    have z2 : (W.alloc (.map #[] 0)).heap.size = W.heap.size + 1 := by simp
    have em := run_makeMapN s.K.length W
    generalize W.alloc (.map #[] 0) = w2 at *
    have b02 := b01.trans (b2.mono b01.size)
    have b3 : Below w2.heap.size w2 (w2.alloc (.cells #[.map (some w.heap.size), .map (some W.heap.size), .pointer s.last] 84)) := (Below.refl _ _).alloc (Nat.le_refl _) _
    have hc := heap_alloc_new w2 (.cells #[.map (some w.heap.size), .map (some W.heap.size), .pointer s.last] 84)
    have zB : base ≤ w.heap.size := hB
    have z3 : (w2.alloc (.cells #[.map (some w.heap.size), .map (some W.heap.size), .pointer s.last] 84)).heap.size = w2.heap.size + 1 := by simp
    have eb := box_rg w.heap.size W.heap.size s.last w2
    have b03 := b02.trans (b3.mono b02.size)
    refine ⟨rfl, b01, W.heap.size, w2, _, _, em, b02, eb, b03, w.heap.size, W.heap.size, w2.heap.size, rfl, ⟨hc, (m1.below (b2.block _ (by omega))).below (b3.block _ (by omega)), m2.below (b3.block _ (by omega)), by simp, (HB.out _ b03).en, ?_, (HB.out _ b03).ead, ?_⟩, b03, ?_⟩
    rotate_left
    rotate_left
    · exact ⟨by omega, ⟨by omega, by omega⟩, ⟨by omega, by omega⟩, ⟨by omega, by omega⟩⟩
    · exact (nodup3R (show w2.heap.size ≠ w.heap.size by omega) (show w2.heap.size ≠ W.heap.size by omega) (show w.heap.size ≠ W.heap.size by omega) : [w2.heap.size, w.heap.size, W.heap.size].Nodup)
    · intro j hj
      simp only [Rs.bl, List.map_nil, List.mem_cons, List.not_mem_nil, or_false] at hj
      omega
  rintro eb pv a' w3 ⟨bp2, bk2, t2, rfl, m3, b3, fb3⟩ ha
  subst ha
  simp only [Act.put, List.setIfInBounds_toArray, List.set_cons_zero, List.set_cons_succ]
  clear C1 m1 b1 z1 b01 bd
  have c0 := (HB.out _ b3).c0
  obtain ⟨w4, hrg, it4, z4, b4⟩ := M.range_any (P := Tryd.prog) Tryd.underlying81 (HB.out _ b3).pl
  obtain ⟨r, hr⟩ : ∃ r, w3.heap.size = r := ⟨_, rfl⟩
  rw [hr] at hrg it4 fb3
  have ERG := hidMk hrg
  have FB := hidMk fb3
  have ST : Hid (FkP w base s t2 bp2 bk2 r w4 s.P (entP s.P)) := ⟨it4, m3.below b4, b3.trans (b4.mono b3.size), CpP.start HH.out.mem.places (fun q hq => by
    obtain ⟨a, c, e, _⟩ := (HH.out.mem.en q hq).1.open RN_is (HH.out.mem.en q hq).2.2
    exact ⟨a, _, c, e⟩)⟩
  clear hrg it4 z4 b4 hr m3 b3 fb3
  go_upto_region 5 with (first
    | (refine wpList_run rfl (exec_range (t := 81) (xv := .map (some s.bp)) (v := .pointer (some ⟨r, 0, none⟩)) (w2 := w4) rfl rfl ERG.out) ?_)
    | fail)
  clear c0 ERG
  simp only [Act.put, List.setIfInBounds_toArray, List.set_cons_zero, List.set_cons_succ]
  go_loopw [] (fun wr => ∃ (P' : PLs) (T : List (PlK × Value)), FkP w base s t2 bp2 bk2 r wr P' T) (fun wr => wr.rangeLeft s.bp r)
  case atStart => exact ⟨_, _, ST.out⟩
  case round =>
    clear ST
    obtain ⟨P', T, st⟩ := hrel
    have HIT := hidMk (iter_left st.it)
    rcases M.next_any (P := Tryd.prog) (ty := 0) st.it with ⟨rfl, hnx⟩ | ⟨A, p, Bq, w5, hTe, hnx, it5, now5, t5, z5⟩
    · -- the keys
      have HN := hidMk hnx
      have S1 := hidMk st
      have c1 := (HB.out _ st.bel).c1
      obtain ⟨w6, hrg, it6, z6, b6⟩ := M.range_any (P := Tryd.prog) Tryd.underlying82 (HB.out _ st.bel).kl
      obtain ⟨r2, hr2⟩ : ∃ r2, wr.heap.size = r2 := ⟨_, rfl⟩
      have hlt := (iter_lt st.it).2
      have FB2 : Hid (FkB w t2 bp2 bk2 r2) := by
        have f := FB.out
        refine ⟨?_, ⟨f.t.1, ?_⟩, ⟨f.p.1, ?_⟩, ⟨f.k.1, ?_⟩⟩
        · have := st.bel.size; omega
        · have := f.t.2; omega
        · have := f.p.2; omega
        · have := f.k.2; omega
      rw [hr2] at hrg it6
      have ERG := hidMk hrg
      have SK : Hid (FkK w base s t2 bp2 bk2 r2 P' w6 [] (entK s.K)) := ⟨it6, st.m.below b6, st.bel.trans (b6.mono st.bel.size), CpK.start HH.out.mem.keys, fun q hq => by cases hq⟩
      have CPF := hidMk st.cp
      clear hnx st hrg it6 z6 b6 hr2 hlt HIT S1
      go_upto_region 10 with (first
        | (refine wpList_run rfl (exec_next (xv := .pointer (some ⟨r, 0, none⟩)) (v := .tuple #[.bool false]) (w2 := wr) rfl rfl HN.out) ?_)
        | (refine wpList_run rfl (exec_range (t := 82) (xv := .map (some s.bk)) (v := .pointer (some ⟨r2, 0, none⟩)) (w2 := w6) rfl rfl ERG.out) ?_)
        | fail)
      clear c1 ERG HN
      simp only [Act.put, List.setIfInBounds_toArray, List.set_cons_zero, List.set_cons_succ]
      go_loopw [] (fun wr => ∃ (K' : KLs) (T : List (IdK × Value)), FkK w base s t2 bp2 bk2 r2 P' wr K' T) (fun wr => wr.rangeLeft s.bk r2)
      case atStart => exact ⟨_, _, SK.out⟩
      case round =>
        clear SK
        obtain ⟨K', T, st⟩ := hrel
        have HIT := hidMk (iter_left st.it)
        rcases M.next_any (P := Tryd.prog) (ty := 0) st.it with ⟨rfl, hnx⟩ | ⟨A, p, Bq, w5, hTe, hnx, it5, now5, t5, z5⟩
        · have HN := hidMk hnx
          have END : Hid (FkE w base s H ⟨t2, bp2, bk2, P', K', s.last⟩ wr) := fork_end HH.out st.m st.bel CPF.out st.cp (fun j hj => (FkK.bls (P' := P') (s := s) FB2.out st.ab j hj).1)
          clear hnx st HIT
          go_wp2_with (first
            | (refine wpList_run rfl (exec_next (xv := .pointer (some ⟨r2, 0, none⟩)) (v := .tuple #[.bool false]) (w2 := wr) rfl rfl HN.out) ?_)
            | fail)
          go_ret
          exact ⟨_, rfl, END.out⟩
        · obtain ⟨b0, l, hpR, hp2⟩ := entK_mem (st.cp.d3 p (by rw [hTe]; simp))
          have hpo : p.1.ok := (HB.out _ st.bel).kl.2.2 p (st.cp.d3 p (by rw [hTe]; simp))
          obtain ⟨w6, w7, e6, e7, n7, b7⟩ := id_newR w5 hpo
          obtain ⟨it7, m7, bel7⟩ := st.next FB2.out hTe it5 t5 b7
          have bd7 : Below w7.heap.size w7 w7.drew := (Below.refl _ _).drew
          obtain ⟨w9, w10, C9, b9, e10, st10⟩ := FkK.did HH.out.mem hB st FB2.out hTe (it7.same rfl rfl : M.Iter w7.drew s.bk r2 IdK.v (entK s.K) (A ++ Bq)) (m7.below bd7) bel7.drew hpR hpo
          have LFT := hidMk (iter_left st10.it)
          have ST10 := hidMk st10
          have HTE := hidMk hTe
          rw [hp2] at hnx now5
          have HNX := hidMk hnx
          have HNW := hidMk now5
          have E6 := hidMk e6
          have E7 := hidMk e7
          have E10 := hidMk e10
          have H9 := hidMk C9
          have B9 := hidMk b9
          have M8 := hidMk (fun (W : World) (b : Below w7.drew.heap.size w7.drew W) => (m7.below bd7).below b)
          have X8 := hidMk (fun (W : World) (b : Below w7.drew.heap.size w7.drew W) => show IdAt W w5.heap.size p.1 from (b.block _ (by show w5.heap.size < w7.heap.size; exact (Array.getElem?_eq_some_iff.1 n7).1)).trans n7)
          clear hnx now5 e6 e7 e10 C9 b9 m7 bd7 n7 b7 it7 bel7 st10 st it5 t5 z5 hTe hpR hp2
          go_upto_region 11 with (first
            | (refine wpList_run rfl (exec_next (xv := .pointer (some ⟨r2, 0, none⟩)) (v := .tuple #[.bool true, p.1.v, .map (some b0)]) (w2 := w5) rfl rfl HNX.out) ?_)
            | fail)
          refine fk11 (itv := .pointer (some ⟨r2, 0, none⟩)) (kv := p.1.v) (mv := .map (some b0)) (p := .pointer (some ⟨w5.heap.size, 0, none⟩)) (w1 := w6) (w2 := w7) _ w5 _ rfl rfl HNW.out.run E6.out E7.out ?_
          intro a' w' hw' ha
          obtain rfl : w7 = w' := hw'.symm
          subst ha
          simp only [Act.put, List.setIfInBounds_toArray, List.set_cons_zero, List.set_cons_succ]
          clear HNX HNW E6 E7
          go_upto_region 12 with fail
          refine fk12 (f := t2) (pb := w5.heap.size) (fb := bk2) (mv := .map (some b0)) (p := p.1) (fun W => Below w7.drew.heap.size w7.drew W) (fun W => W = w10) _ w7 _ rfl rfl rfl rfl (Below.refl _ _) ?_ ?_ ?_ ?_
          · intro W hW
            have := (M8.out W hW).c1
            go_simp
          · intro W hW
            exact load_id hpo (X8.out W hW)
          · refine H9.out.mono ?_
            rintro e w' ⟨he, rfl⟩
            exact ⟨_, _, he, B9.out, E10.out, rfl⟩
          intro v a' w' hw' ha
          obtain rfl : w10 = w' := hw'.symm
          subst ha
          simp only [Act.put, List.setIfInBounds_toArray, List.set_cons_zero, List.set_cons_succ]
          clear H9 E10 M8 X8 B9
          go_wp2
          refine ⟨⟨_, _, ST10.out⟩, ?_⟩
          show w10.rangeLeft s.bk r2 < wr.rangeLeft s.bk r2
          rw [LFT.out, HIT.out, HTE.out]
          simp
    · obtain ⟨q0, hq0, e0, ev0⟩ := entP_mem (st.cp.c3 p (by rw [hTe]; simp))
      have hpo : p.1.ok := (HB.out _ st.bel).pl.2.2 p (st.cp.c3 p (by rw [hTe]; simp))
      obtain ⟨w6, w7, e6, e7, n7, b7⟩ := pl_new w5 hpo
      obtain ⟨it7, m7, bel7⟩ := st.next FB.out hTe it5 t5 b7
      have en0 := HH.out.mem.en q0 hq0
      obtain ⟨la, c, elv, _, hnc, hcm, _⟩ := en0.1.open RN_is en0.2.2
      obtain ⟨n, hn⟩ : ∃ n, q0.2.2.length = n := ⟨_, rfl⟩
      rw [hn] at elv hnc
      have hcm2 : c ≤ 9223372036854775807 := by unfold maxLen at hcm; omega
      rw [show p.2 = .slice la n c from ev0.symm.trans elv] at hnx now5
      have HNX := hidMk hnx
      have HNW := hidMk now5
      have E6 := hidMk e6
      have E7 := hidMk e7
      have HTE := hidMk hTe
      by_cases hlt : n < c
      · have bd7 : Below w7.heap.size w7 w7.drew := (Below.refl _ _).drew
        obtain ⟨w9, e9, st9⟩ := FkP.did HH.out.mem st FB.out hTe (it7.same rfl rfl : M.Iter w7.drew s.bp r PlK.v (entP s.P) (A ++ Bq)) (m7.below bd7) bel7.drew hq0 e0 hpo elv hn
        have LFT := hidMk (iter_left st9.it)
        have ST9 := hidMk st9
        have E9 := hidMk e9
        have M8 := hidMk (m7.below bd7)
        have X8 : Hid (w7.drew.heap[w5.heap.size]? = some (.cells p.1.c.toArray 52 (0, 0))) := n7
        clear hnx now5 e6 e7 e9 st9 st it5 t5 z5 hTe m7 bd7 n7 b7 it7 bel7 en0 elv hn hnc hcm hq0 e0 ev0
        go_upto_region 6 with (first
          | (refine wpList_run rfl (exec_next (xv := .pointer (some ⟨r, 0, none⟩)) (v := .tuple #[.bool true, p.1.v, .slice la n c]) (w2 := w5) rfl rfl HNX.out) ?_)
          | fail)
        refine fk6 (itv := .pointer (some ⟨r, 0, none⟩)) (kv := p.1.v) (mv := .slice la n c) (p := .pointer (some ⟨w5.heap.size, 0, none⟩)) (w1 := w6) (w2 := w7) _ w5 _ rfl rfl HNW.out.run E6.out E7.out ?_
        intro a' w' hw' ha
        obtain rfl : w7 = w' := hw'.symm
        subst ha
        simp only [Act.put, List.setIfInBounds_toArray, List.set_cons_zero, List.set_cons_succ]
        clear HNX HNW E6 E7
        go_upto_region 8 with fail
        refine fk8 (f := t2) (pb := w5.heap.size) (fb := bp2) (n := n) (c := c) (la := la) (p := p.1) (fun W => W = w7.drew) (fun W => W = w9) _ w7 _ rfl rfl rfl rfl rfl ?_ ?_ ?_ ?_
        · intro W hW
          rw [hW]
          have := M8.out.c0
          go_simp
        · intro W hW
          rw [hW]
          exact ld_pl hpo (rng_cells X8.out)
        · refine (cut_any la (n := n) (c := c) (m := n) (by omega) w7.drew).mono ?_
          rintro e w' ⟨rfl, rfl⟩
          exact ⟨_, _, rfl, rfl, E9.out, rfl⟩
        intro v a' w' hw' ha
        obtain rfl : w9 = w' := hw'.symm
        subst ha
        simp only [Act.put, List.setIfInBounds_toArray, List.set_cons_zero, List.set_cons_succ]
        clear E9 M8 X8
        go_wp2
        refine ⟨⟨_, _, ST9.out⟩, ?_⟩
        show w9.rangeLeft s.bp r < wr.rangeLeft s.bp r
        rw [LFT.out, HIT.out, HTE.out]
        simp
      · have cp7 := st.cp
        rw [hTe] at cp7
        have ST7 : Hid (FkP w base s t2 bp2 bk2 r w7 P' (A ++ Bq)) := ⟨it7, m7, bel7, cp7.same HH.out.mem.places hq0 e0 elv hlt⟩
        have LFT := hidMk (iter_left it7)
        clear hnx now5 e6 e7 st it5 t5 z5 hTe m7 n7 b7 it7 bel7 en0 elv hn hcm hq0 e0 ev0 cp7
        go_upto_region 6 with (first
          | (refine wpList_run rfl (exec_next (xv := .pointer (some ⟨r, 0, none⟩)) (v := .tuple #[.bool true, p.1.v, .slice la n c]) (w2 := w5) rfl rfl HNX.out) ?_)
          | fail)
        refine fk6 (itv := .pointer (some ⟨r, 0, none⟩)) (kv := p.1.v) (mv := .slice la n c) (p := .pointer (some ⟨w5.heap.size, 0, none⟩)) (w1 := w6) (w2 := w7) _ w5 _ rfl rfl HNW.out.run E6.out E7.out ?_
        intro a' w' hw' ha
        obtain rfl : w7 = w' := hw'.symm
        subst ha
        simp only [Act.put, List.setIfInBounds_toArray, List.set_cons_zero, List.set_cons_succ]
        clear HNX HNW E6 E7
        go_wp2
        refine ⟨⟨_, _, ST7.out⟩, ?_⟩
        show w7.rangeLeft s.bp r < wr.rangeLeft s.bp r
        rw [LFT.out, HIT.out, HTE.out]
        simp
end Go.Proofs.YtldlljobofnmmaaDoor
namespace Go.Proofs.YtldlljobofnmmaaDoor
open Go.RowKit
set_option linter.unusedVariables false
set_option linter.unusedSimpArgs false
def rfk7_o0 : Oper := ⟨some 23, .move (.tmp 3), 28, "ref.go:38", #[], none⟩
def rfk7_o1 : Oper := ⟨some 24, .move (.tmp 3), 28, "ref.go:38", #[], none⟩
def rfk7_o2 : Oper := ⟨some 25, .nilCheck (.tmp 24), 0, "ref.go:38", #[⟨1, .data⟩], none⟩
def rfk7_o3 : Oper := ⟨some 26, .fieldAddr 88 (.tmp 25) 1, 0, "ref.go:38", #[⟨2, .data⟩], none⟩
def rfk7_o4 : Oper := ⟨some 27, .load 86 (.tmp 26), 86, "ref.go:38", #[⟨3, .data⟩], none⟩
def rfk7_o5 : Oper := ⟨some 28, .move (.tmp 0), 28, "ref.go:38", #[], none⟩
def rfk7_o6 : Oper := ⟨some 29, .nilCheck (.tmp 28), 0, "ref.go:38", #[⟨5, .data⟩], none⟩
def rfk7_o7 : Oper := ⟨some 30, .fieldAddr 88 (.tmp 29) 1, 0, "ref.go:38", #[⟨6, .data⟩], none⟩
def rfk7_o8 : Oper := ⟨some 31, .load 86 (.tmp 30), 86, "ref.go:38", #[⟨7, .data⟩], none⟩
def rfk7_o9 : Oper := ⟨some 32, .move (.tmp 4), 3, "ref.go:38", #[], none⟩
def rfk7_o10 : Oper := ⟨some 33, .indexAddr 86 (.tmp 31) (.tmp 32), 0, "ref.go:38", #[⟨8, .data⟩, ⟨9, .data⟩], none⟩
def rfk7_o11 : Oper := ⟨some 34, .load 85 (.tmp 33), 85, "ref.go:38", #[⟨10, .data⟩], none⟩
def rfk7_o12 : Oper := ⟨some 35, .call { callee := Callee.value (Operand.func 47), args := #[.tmp 34], argTypes := #[85] }, 85, "ref.go:38", #[⟨11, .data⟩], none⟩
def rfk7_o13 : Oper := ⟨some 36, .buildSlice 86 1 #[(0, .tmp 35)], 86, "ref.go:38", #[⟨12, .data⟩], none⟩
def rfk7_o14 : Oper := ⟨some 37, .call { callee := Callee.builtin Builtin.append, args := #[.tmp 27, .tmp 36], argTypes := #[86, 86] }, 86, "ref.go:38", #[⟨4, .data⟩, ⟨13, .data⟩, ⟨12, .chain⟩], none⟩
def rfk7_o15 : Oper := ⟨some 38, .nilCheck (.tmp 23), 0, "ref.go:38", #[⟨0, .data⟩, ⟨0, .phase⟩, ⟨1, .phase⟩, ⟨2, .phase⟩, ⟨3, .phase⟩, ⟨4, .phase⟩, ⟨5, .phase⟩, ⟨6, .phase⟩, ⟨7, .phase⟩, ⟨8, .phase⟩, ⟨9, .phase⟩, ⟨10, .phase⟩, ⟨11, .phase⟩, ⟨12, .phase⟩, ⟨13, .phase⟩, ⟨14, .phase⟩], none⟩
def rfk7_o16 : Oper := ⟨some 39, .fieldAddr 88 (.tmp 38) 1, 0, "ref.go:38", #[⟨15, .data⟩, ⟨0, .phase⟩, ⟨1, .phase⟩, ⟨2, .phase⟩, ⟨3, .phase⟩, ⟨4, .phase⟩, ⟨5, .phase⟩, ⟨6, .phase⟩, ⟨7, .phase⟩, ⟨8, .phase⟩, ⟨9, .phase⟩, ⟨10, .phase⟩, ⟨11, .phase⟩, ⟨12, .phase⟩, ⟨13, .phase⟩, ⟨14, .phase⟩], none⟩
def rfk7_o17 : Oper := ⟨none, .store 86 (.tmp 39) (.tmp 37), 0, "ref.go:38", #[⟨16, .data⟩, ⟨14, .data⟩, ⟨14, .chain⟩, ⟨0, .phase⟩, ⟨1, .phase⟩, ⟨2, .phase⟩, ⟨3, .phase⟩, ⟨4, .phase⟩, ⟨5, .phase⟩, ⟨6, .phase⟩, ⟨7, .phase⟩, ⟨8, .phase⟩, ⟨9, .phase⟩, ⟨10, .phase⟩, ⟨11, .phase⟩, ⟨12, .phase⟩, ⟨13, .phase⟩, ⟨14, .phase⟩], none⟩
def rfk7_ops : Array Oper := #[rfk7_o0, rfk7_o1, rfk7_o2, rfk7_o3, rfk7_o4, rfk7_o5, rfk7_o6, rfk7_o7, rfk7_o8, rfk7_o9, rfk7_o10, rfk7_o11, rfk7_o12, rfk7_o13, rfk7_o14, rfk7_o15, rfk7_o16, rfk7_o17]
theorem rfk7 {d f g n c i : Nat} {fv u0 : Value} (S Fin : World → Prop) (a : Act) (w : World) (Q : Exit → Act → World → Prop) (zz : a.tmps.size = 41)
    (t0 : a.tmps.getD 0 undef = .pointer (some ⟨d, 0, none⟩))
    (t3 : a.tmps.getD 3 undef = .pointer (some ⟨f, 0, none⟩))
    (t4 : a.tmps.getD 4 undef = .int .i64 (i : Int))
    (hi : i < n) (hm : n ≤ 9223372036854775807) (h0 : S w.drew) (L1 : ∀ W, S W → (Instr.loadAt 86 (.pointer (some ⟨f, 0 + 1, none⟩))).run Tryd.prog W = .ok (fv) W) (L2 : ∀ W, S W → (Instr.loadAt 86 (.pointer (some ⟨d, 0 + 1, none⟩))).run Tryd.prog W = .ok (.slice (some ⟨g, 0, none⟩) n c) W) (L3 : ∀ W, S W → (Instr.loadAt 85 (.pointer (some ⟨g, 0 + i, none⟩))).run Tryd.prog W = .ok (u0) W) (CC : Calls Tryd.prog 47 #[u0] w.drew fun e w' => ∃ u, e = .returned u ∧ S w' ∧ ∃ sv w1 u2 w2 w3, (Instr.buildSlice 86 1 #[(0, u)]).run Tryd.prog w' = .ok sv w1 ∧ S w1 ∧ (Builtin.append_ #[86, 86] 86 #[fv, sv]).run Tryd.prog w1 = .ok u2 w2 ∧ S w2 ∧ (Instr.storeAt 86 (.pointer (some ⟨f, 0 + 1, none⟩)) u2).run Tryd.prog w2 = .ok () w3 ∧ Fin w3)
    (h : ∀ (u sv u2 : Value) (a' : Act) (w' : World), Fin w' → a' = (((((((((((((((((a).put (some 23) (.pointer (some ⟨f, 0, none⟩))).put (some 24) (.pointer (some ⟨f, 0, none⟩))).put (some 25) (.pointer (some ⟨f, 0, none⟩))).put (some 26) (.pointer (some ⟨f, 0 + 1, none⟩))).put (some 27) (fv)).put (some 28) (.pointer (some ⟨d, 0, none⟩))).put (some 29) (.pointer (some ⟨d, 0, none⟩))).put (some 30) (.pointer (some ⟨d, 0 + 1, none⟩))).put (some 31) (.slice (some ⟨g, 0, none⟩) n c)).put (some 32) (.int .i64 (i : Int))).put (some 33) (.pointer (some ⟨g, 0 + i, none⟩))).put (some 34) (u0)).put (some 35) (u)).put (some 36) (sv)).put (some 37) (u2)).put (some 38) (.pointer (some ⟨f, 0, none⟩))).put (some 39) (.pointer (some ⟨f, 0 + 1, none⟩)) → Q .normal a' w') :
    (Code.region 7 rfk7_ops true).wp Tryd.prog Q a w := by
  refine x0 17 (fun w' => S w') (h0) (fun hHeld => ?_)
  refine xv 0 rfl rfl (fun w1 hw => exec_move rfl (zi t3 rfl)) hHeld ?_
  refine xv 1 rfl rfl (fun w1 hw => exec_move rfl (zi t3 rfl)) hHeld ?_
  refine xv 2 rfl rfl (fun w1 hw => exec_nilCheck rfl (zg zz rfl)) hHeld ?_
  refine xv 3 rfl rfl (fun w1 hw => exec_fieldAt rfl (zg zz rfl) (fg_88_1 _ _ _)) hHeld ?_
  refine xv 4 rfl rfl (fun w1 hw => exec_load rfl (zg zz rfl) (L1 _ hw)) hHeld ?_
  refine xv 5 rfl rfl (fun w1 hw => exec_move rfl (zi t0 rfl)) hHeld ?_
  refine xv 6 rfl rfl (fun w1 hw => exec_nilCheck rfl (zg zz rfl)) hHeld ?_
  refine xv 7 rfl rfl (fun w1 hw => exec_fieldAt rfl (zg zz rfl) (fg_88_1 _ _ _)) hHeld ?_
  refine xv 8 rfl rfl (fun w1 hw => exec_load rfl (zg zz rfl) (L2 _ hw)) hHeld ?_
  refine xv 9 rfl rfl (fun w1 hw => exec_move rfl (zi t4 rfl)) hHeld ?_
  refine xv 10 rfl rfl (fun w1 hw => exec_indexAt rfl (zg zz rfl) (zg zz rfl) (ix_ps hi hm _)) hHeld ?_
  refine xv 11 rfl rfl (fun w1 hw => exec_load rfl (zg zz rfl) (L3 _ hw)) hHeld ?_
  refine xc 12 rfl rfl (exec_c1 rfl (zg zz rfl)) (CC) (fun e x12 hx => ?_)
  obtain ⟨u, rfl, S1, sv, w1, u2, w2, w3, EB, S2, EA, S3, ES, HF⟩ := hx
  replace h := h u sv u2
  refine ⟨_, rfl, fun _ => S1, fun hHeld => ?_⟩
  replace hHeld := hHeld (by decide)
  refine xr (v := sv) 13 rfl rfl (exec_buildSlice rfl (zg zz rfl) EB) (fun _ => S2) (fun hHeld => ?_)
  replace hHeld := hHeld (by decide)
  refine xr (v := u2) 14 rfl rfl (exec_append rfl (zg zz rfl) (zg zz rfl) EA) (fun _ => S3) (fun hHeld => ?_)
  replace hHeld := hHeld (by decide)
  refine xv 15 rfl rfl (fun w1 hw => exec_nilCheck rfl (zg zz rfl)) hHeld ?_
  refine xv 16 rfl rfl (fun w1 hw => exec_fieldAt rfl (zg zz rfl) (fg_88_1 _ _ _)) hHeld ?_
  refine xs 17 rfl rfl (exec_store rfl (zg zz rfl) (zg zz rfl) ES) (fun hne => absurd rfl hne) (fun _ => ?_)
  exact xe rfl (h _ _ (HF) rfl)
theorem past_from {B : Nat} {W : World} {d : Nat} {X : Sls} {v : SlV} {pv : Value} {D : List (SlV × Sls)} (h : RfP B W d X v pv D) (hB : B ≤ W.heap.size) (hD : D.length + 1 ≤ 2200000000000) {b0 : Nat} {X0 : Sls} (hX0 : SlsAt W b0 X0) (k0 : SlOk X0) (hn : X0.length ≤ 1500000000000) {a0 : Option Addr} {c0 : Nat} (hat : RT.At W a0 X0.row) :
    Calls Tryd.prog 47 #[.slice a0 X0.length c0] W fun e w' => ∃ u bv w1 pv2 w2 w3, e = .returned u ∧ Below W.heap.size W w' ∧ Below W.heap.size W w1 ∧ Tch (fun j => j = d ∨ pv.ownBlock = some j) W w2 ∧ w'.heap[d]? = some (.cells #[v.v, pv] 88 (0, 0)) ∧ (Instr.buildSlice 86 1 #[(0, u)]).run Tryd.prog w' = .ok bv w1 ∧ w1.heap[d]? = some (.cells #[v.v, pv] 88 (0, 0)) ∧ (Builtin.append_ #[86, 86] 86 #[pv, bv]).run Tryd.prog w1 = .ok pv2 w2 ∧ w2.heap[d]? = some (.cells #[v.v, pv] 88 (0, 0)) ∧ (Instr.storeAt 86 (.pointer (some ⟨d, 0 + 1, none⟩)) pv2).run Tryd.prog w2 = .ok () w3 ∧ ∃ h2, RfP B w3 d X v pv2 (D ++ [h2]) ∧ Sls.key h2.2 = X0.key ∧ Tch (fun j => j = d ∨ pv.ownBlock = some j) W w3 := by
  refine (copied_any hX0 hn (c := c0) hat).mono ?_
  rintro e w' ⟨u, Y, rfl, hkey, hO, hS, b⟩
  have ld := (Array.getElem?_eq_some_iff.1 h.cell).1
  have h' := h.below b
  obtain ⟨bv, w1, pv2, w2, E1, b1, E2, o2, t2, q2⟩ := run_pushV 86 85 24 _ Tryd.underlying86 infoSl (.inr rfl) rfl u.v rfl rfl h'.past (Nat.le_trans hB b.size) (by rw [List.length_map]; exact hD)
  have c' := h'.cell
  have ld' := (Array.getElem?_eq_some_iff.1 c').1
  have npd : ¬ pv.ownBlock = some d := fun e => by
    obtain ⟨_, c2, hc2⟩ := h'.past.ge d e
    have := two_types hc2 c'
    revert this; decide
  have c1 := (b1.block d ld').trans c'
  have c2 := (t2.block d ld' npd).trans c'
  obtain ⟨oa, oc, eo, _⟩ := o2.open
  obtain ⟨ps, hps⟩ := h.pastS
  obtain ⟨w3, E3, c3, t3⟩ := st_past (s2 := ⟨oa, _, oc⟩) c2 ⟨ps, hps⟩
  have n2d : ¬ pv2.ownBlock = some d := fun e => by
    obtain ⟨_, c4, hc4⟩ := o2.ge d e
    have := two_types hc4 c2
    revert this; decide
  have t23 : Tch (fun j => j = d ∨ pv.ownBlock = some j) w' w3 := (t2.mono (fun j _ e => .inr e)).trans' t3 (fun j _ e => .inl e)
  have tt : Tch (fun j => j = d ∨ pv.ownBlock = some j) W w3 := (tch_of b _).trans' t23 (fun j _ q => q)
  have ty : ∀ {j : Nat} {c : Array Value} {t : TypeId} {f : Nat × Nat}, w'.heap[j]? = some (.cells c t f) → t ≠ 88 → t ≠ 85 → ¬ (j = d ∨ pv.ownBlock = some j) := fun hj h1 h2 e => by
    rcases e with e | e
    · rw [e] at hj
      exact h1 (two_types hj c')
    · obtain ⟨_, c4, hc4⟩ := h'.past.ge _ e
      exact h2 (two_types hj hc4)
  have kR : ∀ {u : Value} {Z : List (PlK × SlV)} {b0 : Nat}, RT.Own w' b0 u Z → RT.Own w3 b0 u Z := fun hu => hu.keep (fun j hj => by
    obtain ⟨_, c4, hc4⟩ := hu.cells hj
    exact t23.block j (hu.lt hj) (ty hc4 (by decide) (by decide)))
  have kS : ∀ {Z : Sls} {b0 : Nat}, SlsAt w' b0 Z → SlsAt w3 b0 Z := fun hZ q hq => ⟨(hZ q hq).1.keep (fun j hj => by
    obtain ⟨_, c4, hc4⟩ := (hZ q hq).1.cells hj
    exact t23.block j ((hZ q hq).1.lt hj) (ty hc4 (by decide) (by decide))), (hZ q hq).2⟩
  obtain ⟨okY, _, _⟩ := key_ok hkey k0
  have newb : ∀ j, u.v.ownBlock = some j → W.heap.size ≤ j := fun j hj => (hO.cells hj).1
  refine ⟨u.v, bv, w1, pv2, w2, w3, rfl, b, b.trans (b1.mono b.size), (tch_of b _).trans' (t2.mono (fun j _ e => .inr e)) (fun j _ q => q), c', E1, c1, E2, c2, by rw [eo]; exact E3, (u, Y), ⟨?_, kR h'.sl, kS h'.en, ?_, fun q hq => ?_, h.dB, fun q hq j hj => ?_, ?_, h.ok⟩, hkey, tt⟩
  · rw [eo]; exact c3
  · rw [List.map_append]
    exact o2.keep (fun j hj => t3.block j (by obtain ⟨_, c4, hc4⟩ := o2.ge j hj; exact (Array.getElem?_eq_some_iff.1 hc4).1) (fun e => n2d (by rw [← e]; exact hj)))
  · rcases List.mem_append.1 hq with hq | hq
    · exact ⟨kR (h'.ph q hq).1, kS (h'.ph q hq).2.1, (h'.ph q hq).2.2⟩
    · rw [List.mem_singleton.1 hq]
      exact ⟨(kR hO).mono hB, (kS hS).mono hB, okY⟩
  · rcases List.mem_append.1 hq with hq | hq
    · exact h.ap q hq j hj
    · rw [List.mem_singleton.1 hq] at hj
      have := newb j hj
      intro e
      have := h.sl.lt e
      omega
  · rw [List.pairwise_append]
    refine ⟨h.ap2, List.pairwise_singleton _ _, fun x hx y hy j hj => ?_⟩
    rw [List.mem_singleton.1 hy]
    intro e
    have := newb j e
    have := (h.ph x hx).1.lt hj
    omega
def FkI (W : World) (f : Nat) (X : Sls) (D : List (SlV × Sls)) (i : Nat) (W' : World) : Prop := ∃ X' v' pv' D', RfP W.heap.size W' f X' v' pv' D' ∧ Sls.key X' = X.key ∧ D'.map (fun h => Sls.key h.2) = (D.take i).map (fun h => Sls.key h.2) ∧ Below W.heap.size W W'
theorem rf_fork {B : Nat} {W : World} {d : Nat} {X : Sls} {v : SlV} {pv : Value} {D : List (SlV × Sls)} (h : RfP B W d X v pv D) (hn : X.length ≤ 1500000000000) (hD : D.length + 1 ≤ 2200000000000) (hx : ∀ q ∈ D, q.2.length ≤ 1500000000000) :
    Calls Tryd.prog 14 #[.pointer (some ⟨d, 0, none⟩)] W fun e w' => ∃ f, e = .returned (.pointer (some ⟨f, 0, none⟩)) ∧ FkI W f X D D.length w' := by
  obtain ⟨a, c, ev, hat⟩ := h.rfS
  obtain ⟨pa, pc, ep, _⟩ := h.past.open
  rw [List.length_map] at ep
  obtain ⟨n, hnn⟩ : ∃ n, D.length = n := ⟨_, rfl⟩
  rw [hnn] at ep hD ⊢
  have c0 : W.cell? ⟨d, 0, none⟩ = some (.slice a X.length c) := by rw [← ev]; exact (cell_of_row W d 0 _ _ _ h.cell).trans rfl
  have CC := hidMk (copied_any h.en hn (c := c) hat)
  have HH := hidMk (And.intro h (And.intro hnn (And.intro hx ep)))
  obtain ⟨xn, hxn⟩ : ∃ l, X.length = l := ⟨_, rfl⟩
  rw [hxn] at c0 CC
  clear h hnn hx ep ev hat hn hxn
  go_enter Tryd.func14, Tryd.ntmps14
  go_wp2_with (first
    | (go_at_call 47; refine CC.out.mono ?_; rintro e w1 ⟨⟨va, vn, vc⟩, Y, rfl, hkey, hO, hS, b1⟩; clear CC; unfold SlV.v)
    | fail)
  have hs0 : Hid (FkI W w1.heap.size X D 0 (w1.alloc (.cells #[.slice va vn vc, .slice none 0 0] 88))) := by
    have b2 : Below w1.heap.size w1 (w1.alloc (.cells #[.slice va vn vc, .slice none 0 0] 88)) := (Below.refl _ _).alloc (Nat.le_refl _) _
    obtain ⟨okY, _, _⟩ := key_ok hkey HH.out.1.ok
    exact ⟨Y, ⟨va, vn, vc⟩, .slice none 0 0, [], ⟨heap_alloc_new _ _, hO.below b2, hS.below b2, ⟨rfl, .inl ⟨rfl, rfl⟩⟩, by simp, b1.size, by simp, List.Pairwise.nil, okY⟩, hkey, rfl, b1.trans (b2.mono b1.size)⟩
  clear hkey hO hS b1 c0
  generalize w1.alloc (.cells #[.slice va vn vc, .slice none 0 0] 88) = w2 at *
  generalize w1.heap.size = f at *
  go_loopw [4] (fun v4 wx => ∃ i : Nat, v4 = .int .i64 (i : Int) ∧ i ≤ n ∧ Hid (FkI W f X D i wx)) (fun v4 wx => n - (match v4 with | .int _ i => i.toNat | _ => 0))
  case atStart => exact ⟨0, rfl, Nat.zero_le _, hs0⟩
  case round =>
    clear hs0
    obtain ⟨i, rfl, hin, HI⟩ := hrel
    have c1 : wr.cell? ⟨d, 1, none⟩ = some (.slice pa n pc) := by
      obtain ⟨_, _, _, _, _, _, _, b⟩ := HI.out
      obtain ⟨h, _, _, ep⟩ := HH.out
      rw [← ep]
      exact (cell_of_row wr d 1 _ _ _ ((b.block _ (Array.getElem?_eq_some_iff.1 h.cell).1).trans h.cell)).trans rfl
    by_cases hi : i < n
    · obtain ⟨X', v', pv', D', rf, kX, kD, bel⟩ := HI.out
      obtain ⟨h, hnn, hx, ep⟩ := HH.out
      obtain ⟨q, hq⟩ : ∃ q, D[i]? = some q := ⟨_, List.getElem?_eq_getElem (by omega)⟩
      have hqm := List.mem_of_getElem? hq
      obtain ⟨gg, gc, ef⟩ := h.past.form (i := i) (by rw [List.length_map]; omega)
      rw [List.length_map, hnn, ep] at ef
      injection ef with ef _ ef3
      subst ef ef3
      have hDl : D'.length = i := by
        have := congrArg List.length kD
        simp at this
        omega
      have bd : Below wr.heap.size wr wr.drew := (Below.refl _ _).drew
      have beld := bel.trans (bd.mono bel.size)
      have rfd := rf.below bd
      have hd : ∀ W1, Below W.heap.size W W1 → RfP B W1 d X v pv D := fun W1 b => h.below b
      obtain ⟨qa, qc, eq, qat⟩ : ∃ a c, q.1.v = .slice a q.2.length c ∧ RT.At wr.drew a (Sls.row q.2) := by
        have hp := ((hd _ beld).ph q hqm)
        obtain ⟨a, c, e, hat, _⟩ := hp.1.open RT_is (Sls.row_ok hp.2.1)
        rw [show (Sls.row q.2).length = q.2.length by simp [Sls.row]] at e
        exact ⟨a, c, e, hat⟩
      have CP : Hid (Calls Tryd.prog 47 #[q.1.v] wr.drew fun e w' => ∃ u, e = .returned u ∧ (Below W.heap.size W w' ∧ w'.heap[f]? = some (.cells #[v'.v, pv'] 88 (0, 0))) ∧ ∃ sv x1 u2 x2 x3, (Instr.buildSlice 86 1 #[(0, u)]).run Tryd.prog w' = .ok sv x1 ∧ (Below W.heap.size W x1 ∧ x1.heap[f]? = some (.cells #[v'.v, pv'] 88 (0, 0))) ∧ (Builtin.append_ #[86, 86] 86 #[pv', sv]).run Tryd.prog x1 = .ok u2 x2 ∧ (Below W.heap.size W x2 ∧ x2.heap[f]? = some (.cells #[v'.v, pv'] 88 (0, 0))) ∧ (Instr.storeAt 86 (.pointer (some ⟨f, 0 + 1, none⟩)) u2).run Tryd.prog x2 = .ok () x3 ∧ FkI W f X D (i + 1) x3) := by
        have hp := ((hd _ beld).ph q hqm)
        rw [eq]
        refine (past_from rfd (Nat.le_trans bel.size bd.size) (by omega) hp.2.1 hp.2.2 (hx q hqm) qat).mono ?_
        rintro e w' ⟨u, bv, x1, pv2, x2, x3, rfl, b', b1', t2, f0, e1, f1, e2, f2, e3, h2, rf3, k3, t3⟩
        have tb : ∀ {W2 : World}, Tch (fun j => j = f ∨ pv'.ownBlock = some j) wr.drew W2 → Below W.heap.size W W2 := fun t => beld.trans (t.below beld.size (fun j e => by
          rcases e with rfl | e
          · exact rf.dB
          · exact (rfd.past.ge j e).1))
        refine ⟨u, rfl, ⟨beld.trans (b'.mono beld.size), f0⟩, bv, x1, pv2, x2, x3, e1, ⟨beld.trans (b1'.mono beld.size), f1⟩, e2, ⟨tb t2, f2⟩, e3, X', v', pv2, D' ++ [h2], rf3, kX, ?_, tb t3⟩
        rw [List.map_append, kD, List.take_add_one, hq, List.map_append]
        simp [k3]
      have LL : Hid (∀ W1, (Below W.heap.size W W1 ∧ W1.heap[f]? = some (.cells #[v'.v, pv'] 88 (0, 0))) → (Instr.loadAt 86 (.pointer (some ⟨f, 0 + 1, none⟩))).run Tryd.prog W1 = .ok pv' W1 ∧ (Instr.loadAt 86 (.pointer (some ⟨d, 0 + 1, none⟩))).run Tryd.prog W1 = .ok (.slice (some ⟨gg, 0, none⟩) n pc) W1 ∧ (Instr.loadAt 85 (.pointer (some ⟨gg, 0 + i, none⟩))).run Tryd.prog W1 = .ok q.1.v W1) := by
        rintro W1 ⟨b, hf⟩
        have h1 := hd W1 b
        obtain ⟨ps, hps⟩ := rf.pastS
        refine ⟨?_, ?_, ?_⟩
        · rw [hps] at hf ⊢
          exact ld_past hf
        · have h1c := h1.cell
          rw [ep] at h1c
          exact ld_past (s := ⟨some ⟨gg, 0, none⟩, n, pc⟩) h1c
        · rw [Nat.zero_add]
          exact ld_slv (h1.past.hit ep (by rw [List.getElem?_map, hq]; rfl))
      have S0 : Hid (Below W.heap.size W wr.drew ∧ wr.drew.heap[f]? = some (.cells #[v'.v, pv'] 88 (0, 0))) := ⟨beld, rfd.cell⟩
      have h63 : n ≤ 9223372036854775807 := by omega
      clear rf kX kD bel h hnn hx ep hq hqm hDl bd beld rfd hd eq qat HI
      go_upto_region 7 with fail
      clear c1
      refine rfk7 (d := d) (f := f) (g := gg) (n := n) (c := pc) (i := i) (fv := pv') (u0 := q.1.v) (fun W1 => Below W.heap.size W W1 ∧ W1.heap[f]? = some (.cells #[v'.v, pv'] 88 (0, 0))) (FkI W f X D (i + 1)) _ wr _ rfl rfl rfl rfl hi h63 S0.out (fun W1 h => (LL.out W1 h).1) (fun W1 h => (LL.out W1 h).2.1) (fun W1 h => (LL.out W1 h).2.2) CP.out ?_
      intro u sv u2 a' w5 hf ha
      subst ha
      simp only [Act.put, List.setIfInBounds_toArray, List.set_cons_zero, List.set_cons_succ]
      have K5 := hidMk hf
      clear hf CP LL S0
      go_wp2
      rw [show ((i : Int) + 1) = ((i + 1 : Nat) : Int) by omega]
      refine ⟨⟨i + 1, rfl, hi, K5.out⟩, ?_⟩
      show n - ((i + 1 : Nat) : Int).toNat < n - (i : Int).toNat
      omega
    · obtain rfl : i = n := by omega
      go_wp2
      go_ret
      exact ⟨f, rfl, HI.out⟩
theorem HM.keyed {H : List Rec} {f : PF} {D : List (SlV × Sls)} (h : HM H f D) : ∀ {D' : List (SlV × Sls)}, D'.map (fun g => Sls.key g.2) = D.map (fun g => Sls.key g.2) → (∀ g ∈ D, SlOk g.2) → HM H f D' := by
  induction h with
  | nil =>
    intro D' e _
    obtain rfl : D' = [] := by simpa using e
    exact HM.nil
  | step a b ih =>
    intro D' e ok
    rw [List.map_append] at e
    obtain ⟨A, B, rfl, e1, e2⟩ := List.map_eq_append_iff.1 e
    obtain ⟨g, T, rfl, e3, e4⟩ := List.map_eq_cons_iff.1 e2
    obtain rfl : T = [] := by simpa using e4
    refine HM.step (fun q => ?_) (ih e1 (fun g hg => ok g (by simp [hg])))
    rw [(key_ok e3 (ok _ (by simp))).2.1]
    exact a q
theorem Link.fork {p : Pz} (h : Link p) (okX : SlOk p.X) (okD : ∀ g ∈ p.D, SlOk g.2) {s2 : Rs} (li : ∀ q, liOf s2.P q = liOf p.s.P q) {X' : Sls} {D' : List (SlV × Sls)} (kX : Sls.key X' = Sls.key p.X) (kD : D'.map (fun g => Sls.key g.2) = p.D.map (fun g => Sls.key g.2)) (v' : SlV) (pv' bv' sv' : Value) : Link ⟨s2, p.H, X', v', pv', D', bv', p.BL, sv', p.SL⟩ := by
  have el : liOf s2.P = liOf p.s.P := funext li
  refine ⟨fun q => ?_, ?_, h.len, h.nd, h.one, h.hit, h.all⟩
  · show entF X' q = liOf s2.P q
    rw [(key_ok kX okX).2.1, li]
    exact h.eq q
  · show HM p.H (liOf s2.P) D'
    rw [el]
    exact h.hm.keyed kD okD
theorem IsBk.below {W W' : World} {b : Nat} (h : IsBk W b) (bl : Below W.heap.size W W') : IsBk W' b := by
  obtain ⟨c, hc⟩ := h
  exact ⟨c, (bl.block _ (Array.getElem?_eq_some_iff.1 hc).1).trans hc⟩
theorem doc_ge {B : Nat} {w : World} {d : Nat} {X : Sls} {v : SlV} {pv : Value} {H : List (SlV × Sls)} (h : RfP B w d X v pv H) {j : Nat} (hj : docE X H j) : B ≤ j := by
  rcases hj with ⟨q, hq, e⟩ | ⟨g, hg, q, hq, e⟩
  · exact ((h.en q hq).1.cells e).1
  · exact (((h.ph g hg).2.1 q hq).1.cells e).1
def DkE (N : Nat) (p : Pz) (f : Nat) (s2 : Rs) (W : World) : Prop := ∃ X' v' pv' D', RfP N W f X' v' pv' D' ∧ Sls.key X' = Sls.key p.X ∧ D'.map (fun g => Sls.key g.2) = p.D.map (fun g => Sls.key g.2) ∧ ∀ j, docE X' D' j → ¬ s2.all j
theorem DkE.below {N : Nat} {p : Pz} {f : Nat} {s2 : Rs} {W W' : World} (h : DkE N p f s2 W) (b : Below W.heap.size W W') : DkE N p f s2 W' := by
  obtain ⟨X', v', pv', D', rf, kX, kD, ap⟩ := h
  exact ⟨X', v', pv', D', rf.below b, kX, kD, ap⟩
theorem FkE.below {w W W' : World} {base : Nat} {s s2 : Rs} {H : List Rec} (h : FkE w base s H s2 W) (b : Below W.heap.size W W') : FkE w base s H s2 W' :=
  ⟨h.at'.below b, h.bel.trans (b.mono h.bel.size), h.new, h.li, h.al, h.rm⟩
theorem FkE.from {w w1 W : World} {base : Nat} {s s2 : Rs} {H : List Rec} (h : FkE w1 base s H s2 W) (b : Below w.heap.size w w1) : FkE w base s H s2 W :=
  ⟨h.at', b.trans (h.bel.mono b.size), fun j hj => Nat.le_trans b.size (h.new j hj), h.li, h.al, h.rm⟩
def lsB (W : World) (j : Nat) : Prop := ∃ c ty fr, W.heap[j]? = some (.cells c ty fr) ∧ (ty = 54 ∨ ty = 3)
theorem FkE.keep {w W W' : World} {base : Nat} {s s2 : Rs} {H : List Rec} (h : FkE w base s H s2 W) {O : Nat → Prop} (t : Tch O W W') (hO : ∀ j, O j → w.heap.size ≤ j ∧ lsB W j) : FkE w base s H s2 W' := by
  refine ⟨h.at'.keep (fun j hj => t.block j (h.at'.mem.allLt hj) (fun q => ?_)) (h.at'.hist.keepT t (fun j c ty fr hc e q => ?_)), h.bel.trans (t.below h.bel.size (fun j q => (hO j q).1)), h.new, h.li, h.al, h.rm⟩
  · obtain ⟨_, c, ty, fr, hc, e⟩ := hO j q
    exact h.at'.mem.other hc (by rcases e with rfl | rfl <;> decide) (by rcases e with rfl | rfl <;> decide) hj
  · obtain ⟨_, c', ty', fr', hc', e'⟩ := hO j q
    have := two_types hc hc'
    subst this
    rcases e with rfl | rfl | rfl | rfl <;> rcases e' with e' | e' <;> revert e' <;> decide
theorem DkE.keep {N : Nat} {p : Pz} {f : Nat} {s2 : Rs} {W W' : World} (h : DkE N p f s2 W) {O : Nat → Prop} (t : Tch O W W') (hO : ∀ j, O j → lsB W j) : DkE N p f s2 W' := by
  obtain ⟨X', v', pv', D', rf, kX, kD, ap⟩ := h
  refine ⟨X', v', pv', D', rf.keepE t (fun j hj q => ?_) (fun j hj q => ?_), kX, kD, ap⟩
  · obtain ⟨_, c, ty, hc, e⟩ := rf_typ rf hj
    obtain ⟨c', ty', fr', hc', e'⟩ := hO j q
    have := two_types hc hc'
    subst this
    rcases e with rfl | rfl | rfl <;> rcases e' with e' | e' <;> revert e' <;> decide
  · obtain ⟨c, hc⟩ := doc_typ rf hj
    obtain ⟨c', ty', fr', hc', e'⟩ := hO j q
    have := two_types hc hc'
    subst this
    rcases e' with e' | e' <;> revert e' <;> decide
theorem OwnV.base {N B : Nat} {w : World} {e : TypeId} {v : Value} {X : List Value} (h : OwnV w N e v X) (hB : B ≤ N) : OwnV w B e v X := by
  refine ⟨h.1, ?_⟩
  rcases h.2 with hn | ⟨g, cap, cur, rfl, hbg, hg, rest⟩
  · exact .inl hn
  · exact .inr ⟨g, cap, cur, rfl, Nat.le_trans hB hbg, hg, rest⟩
theorem RfP.base {B N : Nat} {w : World} {d : Nat} {X : Sls} {v : SlV} {pv : Value} {H : List (SlV × Sls)} (h : RfP B w d X v pv H) (hB : N ≤ B) : RfP N w d X v pv H :=
  ⟨h.cell, h.sl.mono hB, h.en.mono hB, h.past.base hB, fun g hg => ⟨(h.ph g hg).1.mono hB, (h.ph g hg).2.1.mono hB, (h.ph g hg).2.2⟩, Nat.le_trans hB h.dB, h.ap, h.ap2, h.ok⟩
theorem two_start {w0 W0 W : World} {c : Pc} {K : Fm} {m : Nat} {p : Pz} (kc : K.ps = c.ps) (h : PY K w0 c.B1 c.B2 c.x c.ro c.d m p W0) {s2 : Rs} (hf : FkE W0 c.B1 p.s p.H s2 W) {f : Nat} (hd : DkE W0.heap.size p f s2 W) {bv' sv' : Value} (hbv : OwnV W W0.heap.size 54 bv' (p.BL.map bkV)) (hsv : OwnV W W0.heap.size 3 sv' (p.SL.map inV)) {y : Nat} (hy : W.heap[y]? = some (.cells #[.pointer (some ⟨s2.r, 0, none⟩), .pointer (some ⟨f, 0, none⟩), bv', sv'] 33 (0, 0))) (hyB : W0.heap.size ≤ y) :
    ∃ p', Two w0 c m p ⟨c.B1, W0.heap.size, y, s2.r, f, c.ps⟩ m p' W := by
  obtain ⟨X', v', pv', D', rf, kX, kD, ap⟩ := hd
  have pm := h.pm
  have okX := pm.rf.ok
  have okD : ∀ g ∈ p.D, SlOk g.2 := fun g hg => (pm.rf.ph g hg).2.2
  have b0W := hf.bel
  have z0 := hf.bel.size
  have lk := h.ln.fork okX okD hf.li kX kD v' pv' bv' sv'
  have pm' : PM ⟨fun _ => none, W, s2, fun _ => False, c.ps⟩ W c.B1 W0.heap.size y s2.r f ⟨s2, p.H, X', v', pv', D', bv', p.BL, sv', p.SL⟩ :=
    ⟨hf.at', rf, rfl, hy, hbv, hsv, fun b hb => (pm.bk b hb).below b0W, ap, hyB, fun j o ho => (by cases ho), ER.refl _ _, fun j hj => hj.elim⟩
  have mxD : ∀ Y, (Y = X' ∨ ∃ g ∈ D', Y = g.2) → ∃ Z, (Z = p.X ∨ ∃ g ∈ p.D, Z = g.2) ∧ Y.length = Z.length ∧ ∀ q, entF Y q = entF Z q := by
    rintro Y (rfl | ⟨g, hg, rfl⟩)
    · exact ⟨p.X, .inl rfl, (key_ok kX okX).2.2, (key_ok kX okX).2.1⟩
    · have : Sls.key g.2 ∈ p.D.map (fun g => Sls.key g.2) := by
        rw [← kD]
        exact List.mem_map.2 ⟨g, hg, rfl⟩
      obtain ⟨z, hz, e⟩ := List.mem_map.1 this
      exact ⟨z.2, .inr ⟨z, hz, rfl⟩, (key_ok e.symm (okD z hz)).2.2, (key_ok e.symm (okD z hz)).2.1⟩
  have hDl : D'.length = p.D.length := by
    have := congrArg List.length kD
    simpa using this
  refine ⟨⟨s2, p.H, X', v', pv', D', bv', p.BL, sv', p.SL⟩, ⟨K, kc, h.below b0W⟩, ⟨_, rfl, pm', lk, h.mb, ?_, fun Y hY => ?_, h.bel.trans (b0W.mono h.bel.size), h.l1, h.bel.size, Nat.le_trans h.h1 z0, z0, fun Y hY q hq => ?_, kc ▸ h.kn⟩, fun j hj => pm.new ?_, fun j hj => ?_, hf.rm⟩
  · show D'.length ≤ m
    rw [hDl]
    exact h.md
  · obtain ⟨Z, hZ, e1, e2⟩ := mxD Y hY
    rw [e1]
    exact ⟨(h.mx Z hZ).1, fun q => by rw [e2]; exact (h.mx Z hZ).2 q⟩
  · obtain ⟨Z, hZ, e1, e2⟩ := mxD Y hY
    rw [e2] at hq
    show q ∈ c.ps
    rw [← kc]
    exact h.kp Z hZ q hq
  · rcases hj with hj | hj | hj | hj
    · exact hf.new j hj
    · exact (rf_typ rf hj).1
    · exact (pl_typ pm' hj).1
    · exact doc_ge rf hj
  · have lt := pm.exLt hj
    refine ⟨?_, fun q => ?_, fun q => ?_, fun q => ?_⟩
    · rintro (q | ⟨q, hq, e⟩)
      · have := hf.new j q
        omega
      · obtain ⟨q0, hq0, e0⟩ := hf.al q hq
        have ha : p.s.all j := .inr ⟨q0, hq0, e0 ▸ e⟩
        obtain ⟨_, cu, hc⟩ := (pm.ra.mem.en q0 hq0).1.cells (e0 ▸ e)
        rcases hj with k | k | k | k
        · exact pm.ra.mem.blNot hc k
        · exact pm.notRf k ha
        · obtain ⟨_, c2, ty, hc2, e2⟩ := pl_typ pm k
          have := two_types hc hc2
          rw [← this] at e2
          revert e2; decide
        · exact pm.ap j k ha
    · have := (rf_typ rf q).1
      omega
    · have := (pl_typ pm' q).1
      omega
    · have := doc_ge rf q
      omega
def psF (Ps : List PlK) : List PlK := zPl :: Ps
theorem atP_psF (Ps : List PlK) (z : Int) : atP Ps z ∈ psF Ps := by
  unfold atP psF
  split
  · simp
  · cases e : Ps[z.toNat]? with
    | none => simp
    | some q => exact List.mem_cons_of_mem _ (List.mem_of_getElem? e)
section
variable {w0 W W' : World} {c c' : Pc} {m m' : Nat} {p p' : Pz} {pa : Option Addr} {pc : Nat} {Ps : List PlK} {a : Option Addr} {L : List OpR}
theorem Two.stepA (h : Two w0 c m p c' m' p' W) (hm : m + 1 ≤ 2200000000000) (li : PlI w0 pa Ps a L) (hK : c.ps = psF Ps) {q : OpR} {I : List IdK} (ho : OpS w0 q I) :
    Calls Tryd.prog 11 #[.pointer (some ⟨c.x, 0, none⟩), q.a, .slice pa Ps.length pc] W fun e w' => e = .returned (.bool true) ∧ ∃ p2, Two w0 c (m + 1) p2 c' m' p' w' := by
  refine (dstep_any h.fm hm li.hP li.okP li.hPn (fun z => by show atP Ps z ∈ c.ps; rw [hK]; exact atP_psF Ps z) ho).mono ?_
  rintro e w' ⟨rfl, p2, py⟩
  exact ⟨rfl, p2, h.gone py⟩
theorem Two.stepB (h : Two w0 c m p c' m' p' W) (hm : m' + 1 ≤ 2200000000000) (li : PlI w0 pa Ps a L) (hK : c'.ps = psF Ps) {q : OpR} {I : List IdK} (ho : OpS w0 q I) :
    Calls Tryd.prog 11 #[.pointer (some ⟨c'.x, 0, none⟩), q.a, .slice pa Ps.length pc] W fun e w' => e = .returned (.bool true) ∧ ∃ p2, Two w0 c m p c' (m' + 1) p2 w' := by
  refine (h.symm.stepA hm li hK ho).mono ?_
  rintro e w' ⟨rfl, p2, t⟩
  exact ⟨rfl, p2, t.symm⟩
theorem Two.alikeA (h : Two w0 c m p c' m' p' W) (hm : m ≤ 2200000000000) (li : PlI w0 pa Ps a L) :
    Calls Tryd.prog 12 #[.pointer (some ⟨c.ro, 0, none⟩), .pointer (some ⟨c.d, 0, none⟩), .slice pa Ps.length pc] W fun e w' => e = .returned (.bool true) ∧ Two w0 c m p c' m' p' w' := by
  obtain ⟨K, kc, py⟩ := h.a
  have cc := alike_any py.pr (pc := pc) (li.hP.below py.bel) li.okP li.hPn
  rw [py.pm.r] at cc
  refine cc.mono ?_
  rintro e w' ⟨rfl, b⟩
  exact ⟨rfl, h.below b⟩
theorem Two.alikeB (h : Two w0 c m p c' m' p' W) (hm : m' ≤ 2200000000000) (li : PlI w0 pa Ps a L) :
    Calls Tryd.prog 12 #[.pointer (some ⟨c'.ro, 0, none⟩), .pointer (some ⟨c'.d, 0, none⟩), .slice pa Ps.length pc] W fun e w' => e = .returned (.bool true) ∧ Two w0 c m p c' m' p' w' := by
  refine (h.symm.alikeA hm li).mono ?_
  rintro e w' ⟨rfl, t⟩
  exact ⟨rfl, t.symm⟩
theorem Two.ldrA (h : Two w0 c m p c' m' p' W) : (Instr.loadAt 26 (.pointer (some ⟨c.x, 0 + 0, none⟩))).run Tryd.prog W = .ok (.pointer (some ⟨c.ro, 0, none⟩)) W := by
  obtain ⟨K, kc, py⟩ := h.a
  exact py.pm.ldr
theorem Two.lddA (h : Two w0 c m p c' m' p' W) : (Instr.loadAt 28 (.pointer (some ⟨c.x, 0 + 1, none⟩))).run Tryd.prog W = .ok (.pointer (some ⟨c.d, 0, none⟩)) W := by
  obtain ⟨K, kc, py⟩ := h.a
  exact py.pm.ldd
theorem Two.bel (h : Two w0 c m p c' m' p' W) : Below w0.heap.size w0 W := by
  obtain ⟨K, kc, py⟩ := h.a
  exact py.bel
end
theorem exec_build4 {P : Program} {w : World} {a : Act} {o : Oper} {t : TypeId} {x y z r : Operand} {xv yv zv rv v : Value} (ho : o.op = .build t #[(0, x), (1, y), (2, z), (3, r)]) (hx : a.eval x = xv) (hy : a.eval y = yv) (hz : a.eval z = zv) (hr : a.eval r = rv) (hl : (Instr.build t #[(0, xv), (1, yv), (2, zv), (3, rv)]).run P w = .ok v w) : (execOp a.eval o).run P w = .ok (.value v) w := by
  unfold execOp; simp only [ho, List.map_toArray, List.map_cons, List.map_nil, hx, hy, hz, hr, Sem.run_bind, hl, Result.andThen_ok, Sem.run_pure]
theorem put_sort {a : Act} {i j : Nat} {u v : Value} (h : j < i) : (a.put (some i) u).put (some j) v = (a.put (some j) v).put (some i) u := by
  simp only [Act.put]
  rw [Array.setIfInBounds_comm _ _ (by omega)]
theorem ex_lti {w : World} {a : Act} {o : Oper} {x y : Operand} {i n : Nat} {r : Bool} (hr : decide ((i : Int) < (n : Int)) = r) (ho : o.op = .binOp .lss 3 x y 3) (hx : a.eval x = .int .i64 (i : Int)) (hy : a.eval y = .int .i64 (n : Int)) : (execOp a.eval o).run Tryd.prog w = .ok (.value (.bool r)) w := by
  subst hr
  refine exec_binOp ho hx hy ?_ ?_
  · kernel_rfl
  · go_simp
theorem ex_pnil {w : World} {a : Act} {o : Oper} {x y : Operand} {b : Nat} (ho : o.op = .binOp .eql 26 x y 26) (hx : a.eval x = .pointer (some ⟨b, 0, none⟩)) (hy : a.eval y = .pointer none) : (execOp a.eval o).run Tryd.prog w = .ok (.value (.bool false)) w := by
  refine exec_binOp ho hx hy ?_ ?_
  · first | kernel_rfl | go_simp
  · go_simp
theorem len_ops (a : Option Addr) (m c : Nat) (w : World) : (Builtin.len_ #[23] 3 #[.slice a m c]).run Tryd.prog w = .ok (.int .i64 (m : Int)) w := by go_simp
def fok11_o0 : Oper := ⟨some 31, .move (.tmp 7), 25, "law.go:173", #[], none⟩
def fok11_o1 : Oper := ⟨some 32, .move (.tmp 4), 23, "law.go:173", #[], none⟩
def fok11_o2 : Oper := ⟨some 33, .move (.tmp 8), 3, "law.go:173", #[], none⟩
def fok11_o3 : Oper := ⟨some 34, .indexAddr 23 (.tmp 32) (.tmp 33), 0, "law.go:173", #[⟨1, .data⟩, ⟨2, .data⟩], none⟩
def fok11_o4 : Oper := ⟨some 35, .load 45 (.tmp 34), 45, "law.go:173", #[⟨3, .data⟩], none⟩
def fok11_o5 : Oper := ⟨some 36, .move (.tmp 3), 22, "law.go:173", #[], none⟩
def fok11_o6 : Oper := ⟨some 37, .call { callee := Callee.value (Operand.func 11), args := #[.tmp 31, .tmp 35, .tmp 36], argTypes := #[25, 45, 22] }, 4, "law.go:173", #[⟨0, .data⟩, ⟨4, .data⟩, ⟨5, .data⟩], none⟩
def fok11_o7 : Oper := ⟨some 38, .unOp UnOp.not 4 (.tmp 37), 4, "law.go:173", #[⟨6, .data⟩], none⟩
def fok11_ops : Array Oper := #[fok11_o0, fok11_o1, fok11_o2, fok11_o3, fok11_o4, fok11_o5, fok11_o6, fok11_o7]
theorem fok11 {x g o n c i pn pc : Nat} {pa : Option Addr} {q : OpR} (Fin : World → Prop) (a : Act) (w : World) (Q : Exit → Act → World → Prop) (zz : a.tmps.size = 145)
    (t3 : a.tmps.getD 3 undef = .slice pa pn pc)
    (t4 : a.tmps.getD 4 undef = .slice (some ⟨g, o, none⟩) n c)
    (t7 : a.tmps.getD 7 undef = .pointer (some ⟨x, 0, none⟩))
    (t8 : a.tmps.getD 8 undef = .int .i64 (i : Int))
    (hi : i < n) (hm : n ≤ 9223372036854775807) (L3 : ∀ W, W = w → (Instr.loadAt 45 (.pointer (some ⟨g, o + 42 * i, none⟩))).run Tryd.prog W = .ok (q.a) W) (CS : Calls Tryd.prog 11 #[.pointer (some ⟨x, 0, none⟩), q.a, .slice pa pn pc] w fun e w1 => e = .returned (.bool true) ∧ Fin w1)
    (h : ∀ (a' : Act) (w' : World), Fin w' → a' = ((((((((a).put (some 31) (.pointer (some ⟨x, 0, none⟩))).put (some 32) (.slice (some ⟨g, o, none⟩) n c)).put (some 33) (.int .i64 (i : Int))).put (some 34) (.pointer (some ⟨g, o + 42 * i, none⟩))).put (some 35) (q.a)).put (some 36) (.slice pa pn pc)).put (some 37) (.bool true)).put (some 38) (.bool false) → Q .normal a' w') :
    (Code.region 11 fok11_ops false).wp Tryd.prog Q a w := by
  refine z0 rfl ?_
  refine zv rfl (exec_move rfl (zi t7 rfl)) ?_
  refine zv rfl (exec_move rfl (zi t4 rfl)) ?_
  refine zv rfl (exec_move rfl (zi t8 rfl)) ?_
  refine zv rfl (exec_indexAt rfl (zg zz rfl) (zg zz rfl) (ix_opR hi hm _)) ?_
  refine zv rfl (exec_load rfl (zg zz rfl) (L3 _ rfl)) ?_
  refine zv rfl (exec_move rfl (zi t3 rfl)) ?_
  refine zc rfl (exec_c3 rfl (zg zz rfl) (zg zz rfl) (zg zz rfl)) (CS) (fun e x6 hx => ?_)
  obtain ⟨rfl, HF⟩ := hx
  refine ⟨_, rfl, ?_⟩
  refine zv rfl (exec_not rfl (zg zz rfl)) ?_
  exact ze rfl (h _ _ (HF) rfl)
def fok19t_o0 : Oper := ⟨some 93, .move (.tmp 10), 3, "law.go:182", #[], none⟩
def fok19t_o1 : Oper := ⟨some 94, .move (.tmp 5), 23, "law.go:182", #[], none⟩
def fok19t_o2 : Oper := ⟨some 95, .call { callee := Callee.builtin Builtin.len, args := #[.tmp 94], argTypes := #[23] }, 3, "law.go:182", #[⟨1, .data⟩], none⟩
def fok19t_o3 : Oper := ⟨some 96, .binOp BinOp.lss 3 (.tmp 93) (.tmp 95) 3, 4, "law.go:182", #[⟨0, .data⟩, ⟨2, .data⟩], none⟩
def fok19t_o4 : Oper := ⟨some 97, .move (.tmp 96), 4, "law.go:182", #[⟨3, .data⟩], none⟩
def fok19t_o5 : Oper := ⟨some 98, .move (.tmp 7), 25, "law.go:182", #[⟨4, .guard⟩], some (4, true)⟩
def fok19t_o6 : Oper := ⟨some 99, .move (.tmp 5), 23, "law.go:182", #[⟨4, .guard⟩], some (4, true)⟩
def fok19t_o7 : Oper := ⟨some 100, .move (.tmp 10), 3, "law.go:182", #[⟨4, .guard⟩], some (4, true)⟩
def fok19t_o8 : Oper := ⟨some 101, .indexAddr 23 (.tmp 99) (.tmp 100), 0, "law.go:182", #[⟨6, .data⟩, ⟨7, .data⟩, ⟨4, .guard⟩], some (4, true)⟩
def fok19t_o9 : Oper := ⟨some 102, .load 45 (.tmp 101), 45, "law.go:182", #[⟨8, .data⟩, ⟨4, .guard⟩], some (4, true)⟩
def fok19t_o10 : Oper := ⟨some 103, .move (.tmp 3), 22, "law.go:182", #[⟨4, .guard⟩], some (4, true)⟩
def fok19t_o11 : Oper := ⟨some 104, .call { callee := Callee.value (Operand.func 11), args := #[.tmp 98, .tmp 102, .tmp 103], argTypes := #[25, 45, 22] }, 4, "law.go:182", #[⟨5, .data⟩, ⟨9, .data⟩, ⟨10, .data⟩, ⟨4, .chain⟩, ⟨4, .guard⟩], some (4, true)⟩
def fok19t_o12 : Oper := ⟨some 105, .unOp UnOp.not 4 (.tmp 104), 4, "law.go:182", #[⟨11, .data⟩, ⟨4, .guard⟩], some (4, true)⟩
def fok19t_o13 : Oper := ⟨some 106, .pick (.tmp 97) (.tmp 105) (Operand.const (Value.bool false)), 4, "law.go:182", #[⟨4, .data⟩, ⟨12, .data⟩], none⟩
def fok19t_ops : Array Oper := #[fok19t_o0, fok19t_o1, fok19t_o2, fok19t_o3, fok19t_o4, fok19t_o5, fok19t_o6, fok19t_o7, fok19t_o8, fok19t_o9, fok19t_o10, fok19t_o11, fok19t_o12, fok19t_o13]
theorem fok19t {x g o n c i pn pc : Nat} {pa : Option Addr} {q : OpR} (Fin : World → Prop) (a : Act) (w : World) (Q : Exit → Act → World → Prop) (zz : a.tmps.size = 145)
    (t3 : a.tmps.getD 3 undef = .slice pa pn pc)
    (t5 : a.tmps.getD 5 undef = .slice (some ⟨g, o, none⟩) n c)
    (t7 : a.tmps.getD 7 undef = .pointer (some ⟨x, 0, none⟩))
    (t10 : a.tmps.getD 10 undef = .int .i64 (i : Int))
    (hi : i < n) (hm : n ≤ 9223372036854775807) (L3 : ∀ W, W = w → (Instr.loadAt 45 (.pointer (some ⟨g, o + 42 * i, none⟩))).run Tryd.prog W = .ok (q.a) W) (CS : Calls Tryd.prog 11 #[.pointer (some ⟨x, 0, none⟩), q.a, .slice pa pn pc] w fun e w1 => e = .returned (.bool true) ∧ Fin w1)
    (h : ∀ (a' : Act) (w' : World), Fin w' → a' = ((((((((((((((a).put (some 93) (.int .i64 (i : Int))).put (some 94) (.slice (some ⟨g, o, none⟩) n c)).put (some 95) (.int .i64 (n : Int))).put (some 96) (.bool true)).put (some 97) (.bool true)).put (some 98) (.pointer (some ⟨x, 0, none⟩))).put (some 99) (.slice (some ⟨g, o, none⟩) n c)).put (some 100) (.int .i64 (i : Int))).put (some 101) (.pointer (some ⟨g, o + 42 * i, none⟩))).put (some 102) (q.a)).put (some 103) (.slice pa pn pc)).put (some 104) (.bool true)).put (some 105) (.bool false)).put (some 106) (.bool false) → Q .normal a' w') :
    (Code.region 19 fok19t_ops false).wp Tryd.prog Q a w := by
  refine z0 rfl ?_
  refine zv rfl (exec_move rfl (zi t10 rfl)) ?_
  refine zv rfl (exec_move rfl (zi t5 rfl)) ?_
  refine zv rfl (exec_len rfl (zg zz rfl) (len_ops _ _ _ _)) ?_
  refine zv (v := .bool true) rfl (ex_lti (decide_eq_true (by omega)) rfl (zg zz rfl) (zg zz rfl)) ?_
  refine zv rfl (exec_move rfl (zg zz rfl)) ?_
  refine zv (zw zz rfl rfl rfl (zg zz rfl)) (exec_move rfl (zi t7 rfl)) ?_
  refine zv (zw zz rfl rfl rfl (zg zz rfl)) (exec_move rfl (zi t5 rfl)) ?_
  refine zv (zw zz rfl rfl rfl (zg zz rfl)) (exec_move rfl (zi t10 rfl)) ?_
  refine zv (zw zz rfl rfl rfl (zg zz rfl)) (exec_indexAt rfl (zg zz rfl) (zg zz rfl) (ix_opR hi hm _)) ?_
  refine zv (zw zz rfl rfl rfl (zg zz rfl)) (exec_load rfl (zg zz rfl) (L3 _ rfl)) ?_
  refine zv (zw zz rfl rfl rfl (zg zz rfl)) (exec_move rfl (zi t3 rfl)) ?_
  refine zc (zw zz rfl rfl rfl (zg zz rfl)) (exec_c3 rfl (zg zz rfl) (zg zz rfl) (zg zz rfl)) (CS) (fun e x11 hx => ?_)
  obtain ⟨rfl, HF⟩ := hx
  refine ⟨_, rfl, ?_⟩
  refine zv (zw zz rfl rfl rfl (zg zz rfl)) (exec_not rfl (zg zz rfl)) ?_
  refine zv rfl (exec_pickT rfl (zg zz rfl) (zg zz rfl)) ?_
  exact ze rfl (h _ _ (HF) rfl)
def fok19f_o0 : Oper := ⟨some 93, .move (.tmp 10), 3, "law.go:182", #[], none⟩
def fok19f_o1 : Oper := ⟨some 94, .move (.tmp 5), 23, "law.go:182", #[], none⟩
def fok19f_o2 : Oper := ⟨some 95, .call { callee := Callee.builtin Builtin.len, args := #[.tmp 94], argTypes := #[23] }, 3, "law.go:182", #[⟨1, .data⟩], none⟩
def fok19f_o3 : Oper := ⟨some 96, .binOp BinOp.lss 3 (.tmp 93) (.tmp 95) 3, 4, "law.go:182", #[⟨0, .data⟩, ⟨2, .data⟩], none⟩
def fok19f_o4 : Oper := ⟨some 97, .move (.tmp 96), 4, "law.go:182", #[⟨3, .data⟩], none⟩
def fok19f_o5 : Oper := ⟨some 98, .move (.tmp 7), 25, "law.go:182", #[⟨4, .guard⟩], some (4, true)⟩
def fok19f_o6 : Oper := ⟨some 99, .move (.tmp 5), 23, "law.go:182", #[⟨4, .guard⟩], some (4, true)⟩
def fok19f_o7 : Oper := ⟨some 100, .move (.tmp 10), 3, "law.go:182", #[⟨4, .guard⟩], some (4, true)⟩
def fok19f_o8 : Oper := ⟨some 101, .indexAddr 23 (.tmp 99) (.tmp 100), 0, "law.go:182", #[⟨6, .data⟩, ⟨7, .data⟩, ⟨4, .guard⟩], some (4, true)⟩
def fok19f_o9 : Oper := ⟨some 102, .load 45 (.tmp 101), 45, "law.go:182", #[⟨8, .data⟩, ⟨4, .guard⟩], some (4, true)⟩
def fok19f_o10 : Oper := ⟨some 103, .move (.tmp 3), 22, "law.go:182", #[⟨4, .guard⟩], some (4, true)⟩
def fok19f_o11 : Oper := ⟨some 104, .call { callee := Callee.value (Operand.func 11), args := #[.tmp 98, .tmp 102, .tmp 103], argTypes := #[25, 45, 22] }, 4, "law.go:182", #[⟨5, .data⟩, ⟨9, .data⟩, ⟨10, .data⟩, ⟨4, .chain⟩, ⟨4, .guard⟩], some (4, true)⟩
def fok19f_o12 : Oper := ⟨some 105, .unOp UnOp.not 4 (.tmp 104), 4, "law.go:182", #[⟨11, .data⟩, ⟨4, .guard⟩], some (4, true)⟩
def fok19f_o13 : Oper := ⟨some 106, .pick (.tmp 97) (.tmp 105) (Operand.const (Value.bool false)), 4, "law.go:182", #[⟨4, .data⟩, ⟨12, .data⟩], none⟩
def fok19f_ops : Array Oper := #[fok19f_o0, fok19f_o1, fok19f_o2, fok19f_o3, fok19f_o4, fok19f_o5, fok19f_o6, fok19f_o7, fok19f_o8, fok19f_o9, fok19f_o10, fok19f_o11, fok19f_o12, fok19f_o13]
theorem fok19f {n c i : Nat} {la : Option Addr} (a : Act) (w : World) (Q : Exit → Act → World → Prop) (zz : a.tmps.size = 145)
    (t5 : a.tmps.getD 5 undef = .slice la n c)
    (t10 : a.tmps.getD 10 undef = .int .i64 (i : Int))
    (hi : ¬ i < n)
    (h : ∀ (a' : Act) (w' : World), w' = w → a' = ((((((((((((((a).put (some 93) (.int .i64 (i : Int))).put (some 94) (.slice la n c)).put (some 95) (.int .i64 (n : Int))).put (some 96) (.bool false)).put (some 97) (.bool false)).put (some 98) (undef)).put (some 99) (undef)).put (some 100) (undef)).put (some 101) (undef)).put (some 102) (undef)).put (some 103) (undef)).put (some 104) (undef)).put (some 105) (undef)).put (some 106) (.bool false) → Q .normal a' w') :
    (Code.region 19 fok19f_ops false).wp Tryd.prog Q a w := by
  refine z0 rfl ?_
  refine zv rfl (exec_move rfl (zi t10 rfl)) ?_
  refine zv rfl (exec_move rfl (zi t5 rfl)) ?_
  refine zv rfl (exec_len rfl (zg zz rfl) (len_ops _ _ _ _)) ?_
  refine zv (v := .bool false) rfl (ex_lti (decide_eq_false (by omega)) rfl (zg zz rfl) (zg zz rfl)) ?_
  refine zv rfl (exec_move rfl (zg zz rfl)) ?_
  refine zn (zx zz rfl rfl rfl (zg zz rfl)) ?_
  refine zn (zx zz rfl rfl rfl (zg zz rfl)) ?_
  refine zn (zx zz rfl rfl rfl (zg zz rfl)) ?_
  refine zn (zx zz rfl rfl rfl (zg zz rfl)) ?_
  refine zn (zx zz rfl rfl rfl (zg zz rfl)) ?_
  refine zn (zx zz rfl rfl rfl (zg zz rfl)) ?_
  refine zn (zx zz rfl rfl rfl (zg zz rfl)) ?_
  refine zn (zx zz rfl rfl rfl (zg zz rfl)) ?_
  refine zv rfl (exec_pickF rfl (zg zz rfl) rfl) ?_
  exact ze rfl (h _ _ (rfl) rfl)
def fok21t_o0 : Oper := ⟨some 107, .move (.tmp 10), 3, "law.go:185", #[], none⟩
def fok21t_o1 : Oper := ⟨some 108, .move (.tmp 6), 23, "law.go:185", #[], none⟩
def fok21t_o2 : Oper := ⟨some 109, .call { callee := Callee.builtin Builtin.len, args := #[.tmp 108], argTypes := #[23] }, 3, "law.go:185", #[⟨1, .data⟩], none⟩
def fok21t_o3 : Oper := ⟨some 110, .binOp BinOp.lss 3 (.tmp 107) (.tmp 109) 3, 4, "law.go:185", #[⟨0, .data⟩, ⟨2, .data⟩], none⟩
def fok21t_o4 : Oper := ⟨some 111, .move (.tmp 110), 4, "law.go:185", #[⟨3, .data⟩], none⟩
def fok21t_o5 : Oper := ⟨some 112, .move (.tmp 9), 25, "law.go:185", #[⟨4, .guard⟩], some (4, true)⟩
def fok21t_o6 : Oper := ⟨some 113, .move (.tmp 6), 23, "law.go:185", #[⟨4, .guard⟩], some (4, true)⟩
def fok21t_o7 : Oper := ⟨some 114, .move (.tmp 10), 3, "law.go:185", #[⟨4, .guard⟩], some (4, true)⟩
def fok21t_o8 : Oper := ⟨some 115, .indexAddr 23 (.tmp 113) (.tmp 114), 0, "law.go:185", #[⟨6, .data⟩, ⟨7, .data⟩, ⟨4, .guard⟩], some (4, true)⟩
def fok21t_o9 : Oper := ⟨some 116, .load 45 (.tmp 115), 45, "law.go:185", #[⟨8, .data⟩, ⟨4, .guard⟩], some (4, true)⟩
def fok21t_o10 : Oper := ⟨some 117, .move (.tmp 3), 22, "law.go:185", #[⟨4, .guard⟩], some (4, true)⟩
def fok21t_o11 : Oper := ⟨some 118, .call { callee := Callee.value (Operand.func 11), args := #[.tmp 112, .tmp 116, .tmp 117], argTypes := #[25, 45, 22] }, 4, "law.go:185", #[⟨5, .data⟩, ⟨9, .data⟩, ⟨10, .data⟩, ⟨4, .chain⟩, ⟨4, .guard⟩], some (4, true)⟩
def fok21t_o12 : Oper := ⟨some 119, .unOp UnOp.not 4 (.tmp 118), 4, "law.go:185", #[⟨11, .data⟩, ⟨4, .guard⟩], some (4, true)⟩
def fok21t_o13 : Oper := ⟨some 120, .pick (.tmp 111) (.tmp 119) (Operand.const (Value.bool false)), 4, "law.go:185", #[⟨4, .data⟩, ⟨12, .data⟩], none⟩
def fok21t_ops : Array Oper := #[fok21t_o0, fok21t_o1, fok21t_o2, fok21t_o3, fok21t_o4, fok21t_o5, fok21t_o6, fok21t_o7, fok21t_o8, fok21t_o9, fok21t_o10, fok21t_o11, fok21t_o12, fok21t_o13]
theorem fok21t {x g o n c i pn pc : Nat} {pa : Option Addr} {q : OpR} (Fin : World → Prop) (a : Act) (w : World) (Q : Exit → Act → World → Prop) (zz : a.tmps.size = 145)
    (t3 : a.tmps.getD 3 undef = .slice pa pn pc)
    (t6 : a.tmps.getD 6 undef = .slice (some ⟨g, o, none⟩) n c)
    (t9 : a.tmps.getD 9 undef = .pointer (some ⟨x, 0, none⟩))
    (t10 : a.tmps.getD 10 undef = .int .i64 (i : Int))
    (hi : i < n) (hm : n ≤ 9223372036854775807) (L3 : ∀ W, W = w → (Instr.loadAt 45 (.pointer (some ⟨g, o + 42 * i, none⟩))).run Tryd.prog W = .ok (q.a) W) (CS : Calls Tryd.prog 11 #[.pointer (some ⟨x, 0, none⟩), q.a, .slice pa pn pc] w fun e w1 => e = .returned (.bool true) ∧ Fin w1)
    (h : ∀ (a' : Act) (w' : World), Fin w' → a' = ((((((((((((((a).put (some 107) (.int .i64 (i : Int))).put (some 108) (.slice (some ⟨g, o, none⟩) n c)).put (some 109) (.int .i64 (n : Int))).put (some 110) (.bool true)).put (some 111) (.bool true)).put (some 112) (.pointer (some ⟨x, 0, none⟩))).put (some 113) (.slice (some ⟨g, o, none⟩) n c)).put (some 114) (.int .i64 (i : Int))).put (some 115) (.pointer (some ⟨g, o + 42 * i, none⟩))).put (some 116) (q.a)).put (some 117) (.slice pa pn pc)).put (some 118) (.bool true)).put (some 119) (.bool false)).put (some 120) (.bool false) → Q .normal a' w') :
    (Code.region 21 fok21t_ops false).wp Tryd.prog Q a w := by
  refine z0 rfl ?_
  refine zv rfl (exec_move rfl (zi t10 rfl)) ?_
  refine zv rfl (exec_move rfl (zi t6 rfl)) ?_
  refine zv rfl (exec_len rfl (zg zz rfl) (len_ops _ _ _ _)) ?_
  refine zv (v := .bool true) rfl (ex_lti (decide_eq_true (by omega)) rfl (zg zz rfl) (zg zz rfl)) ?_
  refine zv rfl (exec_move rfl (zg zz rfl)) ?_
  refine zv (zw zz rfl rfl rfl (zg zz rfl)) (exec_move rfl (zi t9 rfl)) ?_
  refine zv (zw zz rfl rfl rfl (zg zz rfl)) (exec_move rfl (zi t6 rfl)) ?_
  refine zv (zw zz rfl rfl rfl (zg zz rfl)) (exec_move rfl (zi t10 rfl)) ?_
  refine zv (zw zz rfl rfl rfl (zg zz rfl)) (exec_indexAt rfl (zg zz rfl) (zg zz rfl) (ix_opR hi hm _)) ?_
  refine zv (zw zz rfl rfl rfl (zg zz rfl)) (exec_load rfl (zg zz rfl) (L3 _ rfl)) ?_
  refine zv (zw zz rfl rfl rfl (zg zz rfl)) (exec_move rfl (zi t3 rfl)) ?_
  refine zc (zw zz rfl rfl rfl (zg zz rfl)) (exec_c3 rfl (zg zz rfl) (zg zz rfl) (zg zz rfl)) (CS) (fun e x11 hx => ?_)
  obtain ⟨rfl, HF⟩ := hx
  refine ⟨_, rfl, ?_⟩
  refine zv (zw zz rfl rfl rfl (zg zz rfl)) (exec_not rfl (zg zz rfl)) ?_
  refine zv rfl (exec_pickT rfl (zg zz rfl) (zg zz rfl)) ?_
  exact ze rfl (h _ _ (HF) rfl)
def fok21f_o0 : Oper := ⟨some 107, .move (.tmp 10), 3, "law.go:185", #[], none⟩
def fok21f_o1 : Oper := ⟨some 108, .move (.tmp 6), 23, "law.go:185", #[], none⟩
def fok21f_o2 : Oper := ⟨some 109, .call { callee := Callee.builtin Builtin.len, args := #[.tmp 108], argTypes := #[23] }, 3, "law.go:185", #[⟨1, .data⟩], none⟩
def fok21f_o3 : Oper := ⟨some 110, .binOp BinOp.lss 3 (.tmp 107) (.tmp 109) 3, 4, "law.go:185", #[⟨0, .data⟩, ⟨2, .data⟩], none⟩
def fok21f_o4 : Oper := ⟨some 111, .move (.tmp 110), 4, "law.go:185", #[⟨3, .data⟩], none⟩
def fok21f_o5 : Oper := ⟨some 112, .move (.tmp 9), 25, "law.go:185", #[⟨4, .guard⟩], some (4, true)⟩
def fok21f_o6 : Oper := ⟨some 113, .move (.tmp 6), 23, "law.go:185", #[⟨4, .guard⟩], some (4, true)⟩
def fok21f_o7 : Oper := ⟨some 114, .move (.tmp 10), 3, "law.go:185", #[⟨4, .guard⟩], some (4, true)⟩
def fok21f_o8 : Oper := ⟨some 115, .indexAddr 23 (.tmp 113) (.tmp 114), 0, "law.go:185", #[⟨6, .data⟩, ⟨7, .data⟩, ⟨4, .guard⟩], some (4, true)⟩
def fok21f_o9 : Oper := ⟨some 116, .load 45 (.tmp 115), 45, "law.go:185", #[⟨8, .data⟩, ⟨4, .guard⟩], some (4, true)⟩
def fok21f_o10 : Oper := ⟨some 117, .move (.tmp 3), 22, "law.go:185", #[⟨4, .guard⟩], some (4, true)⟩
def fok21f_o11 : Oper := ⟨some 118, .call { callee := Callee.value (Operand.func 11), args := #[.tmp 112, .tmp 116, .tmp 117], argTypes := #[25, 45, 22] }, 4, "law.go:185", #[⟨5, .data⟩, ⟨9, .data⟩, ⟨10, .data⟩, ⟨4, .chain⟩, ⟨4, .guard⟩], some (4, true)⟩
def fok21f_o12 : Oper := ⟨some 119, .unOp UnOp.not 4 (.tmp 118), 4, "law.go:185", #[⟨11, .data⟩, ⟨4, .guard⟩], some (4, true)⟩
def fok21f_o13 : Oper := ⟨some 120, .pick (.tmp 111) (.tmp 119) (Operand.const (Value.bool false)), 4, "law.go:185", #[⟨4, .data⟩, ⟨12, .data⟩], none⟩
def fok21f_ops : Array Oper := #[fok21f_o0, fok21f_o1, fok21f_o2, fok21f_o3, fok21f_o4, fok21f_o5, fok21f_o6, fok21f_o7, fok21f_o8, fok21f_o9, fok21f_o10, fok21f_o11, fok21f_o12, fok21f_o13]
theorem fok21f {n c i : Nat} {la : Option Addr} (a : Act) (w : World) (Q : Exit → Act → World → Prop) (zz : a.tmps.size = 145)
    (t6 : a.tmps.getD 6 undef = .slice la n c)
    (t10 : a.tmps.getD 10 undef = .int .i64 (i : Int))
    (hi : ¬ i < n)
    (h : ∀ (a' : Act) (w' : World), w' = w → a' = ((((((((((((((a).put (some 107) (.int .i64 (i : Int))).put (some 108) (.slice la n c)).put (some 109) (.int .i64 (n : Int))).put (some 110) (.bool false)).put (some 111) (.bool false)).put (some 112) (undef)).put (some 113) (undef)).put (some 114) (undef)).put (some 115) (undef)).put (some 116) (undef)).put (some 117) (undef)).put (some 118) (undef)).put (some 119) (undef)).put (some 120) (.bool false) → Q .normal a' w') :
    (Code.region 21 fok21f_ops false).wp Tryd.prog Q a w := by
  refine z0 rfl ?_
  refine zv rfl (exec_move rfl (zi t10 rfl)) ?_
  refine zv rfl (exec_move rfl (zi t6 rfl)) ?_
  refine zv rfl (exec_len rfl (zg zz rfl) (len_ops _ _ _ _)) ?_
  refine zv (v := .bool false) rfl (ex_lti (decide_eq_false (by omega)) rfl (zg zz rfl) (zg zz rfl)) ?_
  refine zv rfl (exec_move rfl (zg zz rfl)) ?_
  refine zn (zx zz rfl rfl rfl (zg zz rfl)) ?_
  refine zn (zx zz rfl rfl rfl (zg zz rfl)) ?_
  refine zn (zx zz rfl rfl rfl (zg zz rfl)) ?_
  refine zn (zx zz rfl rfl rfl (zg zz rfl)) ?_
  refine zn (zx zz rfl rfl rfl (zg zz rfl)) ?_
  refine zn (zx zz rfl rfl rfl (zg zz rfl)) ?_
  refine zn (zx zz rfl rfl rfl (zg zz rfl)) ?_
  refine zn (zx zz rfl rfl rfl (zg zz rfl)) ?_
  refine zv rfl (exec_pickF rfl (zg zz rfl) rfl) ?_
  exact ze rfl (h _ _ (rfl) rfl)
def fok17t_o0 : Oper := ⟨some 81, .move (.tmp 10), 3, "law.go:181", #[], none⟩
def fok17t_o1 : Oper := ⟨some 82, .move (.tmp 5), 23, "law.go:181", #[], none⟩
def fok17t_o2 : Oper := ⟨some 83, .call { callee := Callee.builtin Builtin.len, args := #[.tmp 82], argTypes := #[23] }, 3, "law.go:181", #[⟨1, .data⟩], none⟩
def fok17t_o3 : Oper := ⟨some 84, .binOp BinOp.lss 3 (.tmp 81) (.tmp 83) 3, 4, "law.go:181", #[⟨0, .data⟩, ⟨2, .data⟩], none⟩
def fok17t_o4 : Oper := ⟨some 85, .move (.tmp 84), 4, "law.go:181", #[⟨3, .data⟩], none⟩
def fok17t_o5 : Oper := ⟨some 86, .move (.tmp 10), 3, "law.go:181", #[⟨4, .guard⟩], some (4, false)⟩
def fok17t_o6 : Oper := ⟨some 87, .move (.tmp 6), 23, "law.go:181", #[⟨4, .guard⟩], some (4, false)⟩
def fok17t_o7 : Oper := ⟨some 88, .call { callee := Callee.builtin Builtin.len, args := #[.tmp 87], argTypes := #[23] }, 3, "law.go:181", #[⟨6, .data⟩, ⟨4, .guard⟩], some (4, false)⟩
def fok17t_o8 : Oper := ⟨some 89, .binOp BinOp.lss 3 (.tmp 86) (.tmp 88) 3, 4, "law.go:181", #[⟨5, .data⟩, ⟨7, .data⟩, ⟨4, .guard⟩], some (4, false)⟩
def fok17t_o9 : Oper := ⟨some 90, .pick (.tmp 85) (Operand.const (Value.bool true)) (.tmp 89), 4, "law.go:181", #[⟨4, .data⟩, ⟨8, .data⟩], none⟩
def fok17t_ops : Array Oper := #[fok17t_o0, fok17t_o1, fok17t_o2, fok17t_o3, fok17t_o4, fok17t_o5, fok17t_o6, fok17t_o7, fok17t_o8, fok17t_o9]
theorem fok17t {n c i : Nat} {la : Option Addr} (a : Act) (w : World) (Q : Exit → Act → World → Prop) (zz : a.tmps.size = 145)
    (t5 : a.tmps.getD 5 undef = .slice la n c)
    (t10 : a.tmps.getD 10 undef = .int .i64 (i : Int))
    (hi : i < n)
    (h : ∀ (a' : Act) (w' : World), w' = w → a' = ((((((((((a).put (some 81) (.int .i64 (i : Int))).put (some 82) (.slice la n c)).put (some 83) (.int .i64 (n : Int))).put (some 84) (.bool true)).put (some 85) (.bool true)).put (some 86) (undef)).put (some 87) (undef)).put (some 88) (undef)).put (some 89) (undef)).put (some 90) (.bool true) → Q .normal a' w') :
    (Code.region 17 fok17t_ops false).wp Tryd.prog Q a w := by
  refine z0 rfl ?_
  refine zv rfl (exec_move rfl (zi t10 rfl)) ?_
  refine zv rfl (exec_move rfl (zi t5 rfl)) ?_
  refine zv rfl (exec_len rfl (zg zz rfl) (len_ops _ _ _ _)) ?_
  refine zv (v := .bool true) rfl (ex_lti (decide_eq_true (by omega)) rfl (zg zz rfl) (zg zz rfl)) ?_
  refine zv rfl (exec_move rfl (zg zz rfl)) ?_
  refine zn (zx zz rfl rfl rfl (zg zz rfl)) ?_
  refine zn (zx zz rfl rfl rfl (zg zz rfl)) ?_
  refine zn (zx zz rfl rfl rfl (zg zz rfl)) ?_
  refine zn (zx zz rfl rfl rfl (zg zz rfl)) ?_
  refine zv rfl (exec_pickT rfl (zg zz rfl) rfl) ?_
  exact ze rfl (h _ _ (rfl) rfl)
def fok17ft_o0 : Oper := ⟨some 81, .move (.tmp 10), 3, "law.go:181", #[], none⟩
def fok17ft_o1 : Oper := ⟨some 82, .move (.tmp 5), 23, "law.go:181", #[], none⟩
def fok17ft_o2 : Oper := ⟨some 83, .call { callee := Callee.builtin Builtin.len, args := #[.tmp 82], argTypes := #[23] }, 3, "law.go:181", #[⟨1, .data⟩], none⟩
def fok17ft_o3 : Oper := ⟨some 84, .binOp BinOp.lss 3 (.tmp 81) (.tmp 83) 3, 4, "law.go:181", #[⟨0, .data⟩, ⟨2, .data⟩], none⟩
def fok17ft_o4 : Oper := ⟨some 85, .move (.tmp 84), 4, "law.go:181", #[⟨3, .data⟩], none⟩
def fok17ft_o5 : Oper := ⟨some 86, .move (.tmp 10), 3, "law.go:181", #[⟨4, .guard⟩], some (4, false)⟩
def fok17ft_o6 : Oper := ⟨some 87, .move (.tmp 6), 23, "law.go:181", #[⟨4, .guard⟩], some (4, false)⟩
def fok17ft_o7 : Oper := ⟨some 88, .call { callee := Callee.builtin Builtin.len, args := #[.tmp 87], argTypes := #[23] }, 3, "law.go:181", #[⟨6, .data⟩, ⟨4, .guard⟩], some (4, false)⟩
def fok17ft_o8 : Oper := ⟨some 89, .binOp BinOp.lss 3 (.tmp 86) (.tmp 88) 3, 4, "law.go:181", #[⟨5, .data⟩, ⟨7, .data⟩, ⟨4, .guard⟩], some (4, false)⟩
def fok17ft_o9 : Oper := ⟨some 90, .pick (.tmp 85) (Operand.const (Value.bool true)) (.tmp 89), 4, "law.go:181", #[⟨4, .data⟩, ⟨8, .data⟩], none⟩
def fok17ft_ops : Array Oper := #[fok17ft_o0, fok17ft_o1, fok17ft_o2, fok17ft_o3, fok17ft_o4, fok17ft_o5, fok17ft_o6, fok17ft_o7, fok17ft_o8, fok17ft_o9]
theorem fok17ft {n c m e i : Nat} {la lb : Option Addr} (a : Act) (w : World) (Q : Exit → Act → World → Prop) (zz : a.tmps.size = 145)
    (t5 : a.tmps.getD 5 undef = .slice la n c)
    (t6 : a.tmps.getD 6 undef = .slice lb m e)
    (t10 : a.tmps.getD 10 undef = .int .i64 (i : Int))
    (hi : ¬ i < n) (hj : i < m)
    (h : ∀ (a' : Act) (w' : World), w' = w → a' = ((((((((((a).put (some 81) (.int .i64 (i : Int))).put (some 82) (.slice la n c)).put (some 83) (.int .i64 (n : Int))).put (some 84) (.bool false)).put (some 85) (.bool false)).put (some 86) (.int .i64 (i : Int))).put (some 87) (.slice lb m e)).put (some 88) (.int .i64 (m : Int))).put (some 89) (.bool true)).put (some 90) (.bool true) → Q .normal a' w') :
    (Code.region 17 fok17ft_ops false).wp Tryd.prog Q a w := by
  refine z0 rfl ?_
  refine zv rfl (exec_move rfl (zi t10 rfl)) ?_
  refine zv rfl (exec_move rfl (zi t5 rfl)) ?_
  refine zv rfl (exec_len rfl (zg zz rfl) (len_ops _ _ _ _)) ?_
  refine zv (v := .bool false) rfl (ex_lti (decide_eq_false (by omega)) rfl (zg zz rfl) (zg zz rfl)) ?_
  refine zv rfl (exec_move rfl (zg zz rfl)) ?_
  refine zv (zw zz rfl rfl rfl (zg zz rfl)) (exec_move rfl (zi t10 rfl)) ?_
  refine zv (zw zz rfl rfl rfl (zg zz rfl)) (exec_move rfl (zi t6 rfl)) ?_
  refine zv (zw zz rfl rfl rfl (zg zz rfl)) (exec_len rfl (zg zz rfl) (len_ops _ _ _ _)) ?_
  refine zv (v := .bool true) (zw zz rfl rfl rfl (zg zz rfl)) (ex_lti (decide_eq_true (by omega)) rfl (zg zz rfl) (zg zz rfl)) ?_
  refine zv rfl (exec_pickF rfl (zg zz rfl) (zg zz rfl)) ?_
  exact ze rfl (h _ _ (rfl) rfl)
def fok17ff_o0 : Oper := ⟨some 81, .move (.tmp 10), 3, "law.go:181", #[], none⟩
def fok17ff_o1 : Oper := ⟨some 82, .move (.tmp 5), 23, "law.go:181", #[], none⟩
def fok17ff_o2 : Oper := ⟨some 83, .call { callee := Callee.builtin Builtin.len, args := #[.tmp 82], argTypes := #[23] }, 3, "law.go:181", #[⟨1, .data⟩], none⟩
def fok17ff_o3 : Oper := ⟨some 84, .binOp BinOp.lss 3 (.tmp 81) (.tmp 83) 3, 4, "law.go:181", #[⟨0, .data⟩, ⟨2, .data⟩], none⟩
def fok17ff_o4 : Oper := ⟨some 85, .move (.tmp 84), 4, "law.go:181", #[⟨3, .data⟩], none⟩
def fok17ff_o5 : Oper := ⟨some 86, .move (.tmp 10), 3, "law.go:181", #[⟨4, .guard⟩], some (4, false)⟩
def fok17ff_o6 : Oper := ⟨some 87, .move (.tmp 6), 23, "law.go:181", #[⟨4, .guard⟩], some (4, false)⟩
def fok17ff_o7 : Oper := ⟨some 88, .call { callee := Callee.builtin Builtin.len, args := #[.tmp 87], argTypes := #[23] }, 3, "law.go:181", #[⟨6, .data⟩, ⟨4, .guard⟩], some (4, false)⟩
def fok17ff_o8 : Oper := ⟨some 89, .binOp BinOp.lss 3 (.tmp 86) (.tmp 88) 3, 4, "law.go:181", #[⟨5, .data⟩, ⟨7, .data⟩, ⟨4, .guard⟩], some (4, false)⟩
def fok17ff_o9 : Oper := ⟨some 90, .pick (.tmp 85) (Operand.const (Value.bool true)) (.tmp 89), 4, "law.go:181", #[⟨4, .data⟩, ⟨8, .data⟩], none⟩
def fok17ff_ops : Array Oper := #[fok17ff_o0, fok17ff_o1, fok17ff_o2, fok17ff_o3, fok17ff_o4, fok17ff_o5, fok17ff_o6, fok17ff_o7, fok17ff_o8, fok17ff_o9]
theorem fok17ff {n c m e i : Nat} {la lb : Option Addr} (a : Act) (w : World) (Q : Exit → Act → World → Prop) (zz : a.tmps.size = 145)
    (t5 : a.tmps.getD 5 undef = .slice la n c)
    (t6 : a.tmps.getD 6 undef = .slice lb m e)
    (t10 : a.tmps.getD 10 undef = .int .i64 (i : Int))
    (hi : ¬ i < n) (hj : ¬ i < m)
    (h : ∀ (a' : Act) (w' : World), w' = w → a' = ((((((((((a).put (some 81) (.int .i64 (i : Int))).put (some 82) (.slice la n c)).put (some 83) (.int .i64 (n : Int))).put (some 84) (.bool false)).put (some 85) (.bool false)).put (some 86) (.int .i64 (i : Int))).put (some 87) (.slice lb m e)).put (some 88) (.int .i64 (m : Int))).put (some 89) (.bool false)).put (some 90) (.bool false) → Q .normal a' w') :
    (Code.region 17 fok17ff_ops false).wp Tryd.prog Q a w := by
  refine z0 rfl ?_
  refine zv rfl (exec_move rfl (zi t10 rfl)) ?_
  refine zv rfl (exec_move rfl (zi t5 rfl)) ?_
  refine zv rfl (exec_len rfl (zg zz rfl) (len_ops _ _ _ _)) ?_
  refine zv (v := .bool false) rfl (ex_lti (decide_eq_false (by omega)) rfl (zg zz rfl) (zg zz rfl)) ?_
  refine zv rfl (exec_move rfl (zg zz rfl)) ?_
  refine zv (zw zz rfl rfl rfl (zg zz rfl)) (exec_move rfl (zi t10 rfl)) ?_
  refine zv (zw zz rfl rfl rfl (zg zz rfl)) (exec_move rfl (zi t6 rfl)) ?_
  refine zv (zw zz rfl rfl rfl (zg zz rfl)) (exec_len rfl (zg zz rfl) (len_ops _ _ _ _)) ?_
  refine zv (v := .bool false) (zw zz rfl rfl rfl (zg zz rfl)) (ex_lti (decide_eq_false (by omega)) rfl (zg zz rfl) (zg zz rfl)) ?_
  refine zv rfl (exec_pickF rfl (zg zz rfl) (zg zz rfl)) ?_
  exact ze rfl (h _ _ (rfl) rfl)
def fok14_o0 : Oper := ⟨some 63, .move (.tmp 9), 25, "law.go:178", #[], none⟩
def fok14_o1 : Oper := ⟨some 64, .nilCheck (.tmp 63), 0, "law.go:178", #[⟨0, .data⟩], none⟩
def fok14_o2 : Oper := ⟨some 65, .fieldAddr 33 (.tmp 64) 0, 0, "law.go:178", #[⟨1, .data⟩], none⟩
def fok14_o3 : Oper := ⟨some 66, .load 26 (.tmp 65), 26, "law.go:178", #[⟨2, .data⟩], none⟩
def fok14_o4 : Oper := ⟨some 67, .binOp BinOp.eql 26 (.tmp 66) (Operand.const (Value.pointer none)) 26, 4, "law.go:178", #[⟨3, .data⟩], none⟩
def fok14_o5 : Oper := ⟨some 68, .move (.tmp 67), 4, "law.go:178", #[⟨4, .data⟩], none⟩
def fok14_o6 : Oper := ⟨some 69, .move (.tmp 9), 25, "law.go:178", #[⟨5, .guard⟩], some (5, false)⟩
def fok14_o7 : Oper := ⟨some 70, .nilCheck (.tmp 69), 0, "law.go:178", #[⟨6, .data⟩, ⟨5, .guard⟩], some (5, false)⟩
def fok14_o8 : Oper := ⟨some 71, .fieldAddr 33 (.tmp 70) 0, 0, "law.go:178", #[⟨7, .data⟩, ⟨5, .guard⟩], some (5, false)⟩
def fok14_o9 : Oper := ⟨some 72, .load 26 (.tmp 71), 26, "law.go:178", #[⟨8, .data⟩, ⟨5, .guard⟩], some (5, false)⟩
def fok14_o10 : Oper := ⟨some 73, .move (.tmp 9), 25, "law.go:178", #[⟨5, .guard⟩], some (5, false)⟩
def fok14_o11 : Oper := ⟨some 74, .nilCheck (.tmp 73), 0, "law.go:178", #[⟨10, .data⟩, ⟨5, .guard⟩], some (5, false)⟩
def fok14_o12 : Oper := ⟨some 75, .fieldAddr 33 (.tmp 74) 1, 0, "law.go:178", #[⟨11, .data⟩, ⟨5, .guard⟩], some (5, false)⟩
def fok14_o13 : Oper := ⟨some 76, .load 28 (.tmp 75), 28, "law.go:178", #[⟨12, .data⟩, ⟨5, .guard⟩], some (5, false)⟩
def fok14_o14 : Oper := ⟨some 77, .move (.tmp 3), 22, "law.go:178", #[⟨5, .guard⟩], some (5, false)⟩
def fok14_o15 : Oper := ⟨some 78, .call { callee := Callee.value (Operand.func 12), args := #[.tmp 72, .tmp 76, .tmp 77], argTypes := #[26, 28, 22] }, 4, "law.go:178", #[⟨9, .data⟩, ⟨13, .data⟩, ⟨14, .data⟩, ⟨5, .chain⟩, ⟨5, .guard⟩], some (5, false)⟩
def fok14_o16 : Oper := ⟨some 79, .unOp UnOp.not 4 (.tmp 78), 4, "law.go:178", #[⟨15, .data⟩, ⟨5, .guard⟩], some (5, false)⟩
def fok14_o17 : Oper := ⟨some 80, .pick (.tmp 68) (Operand.const (Value.bool true)) (.tmp 79), 4, "law.go:178", #[⟨5, .data⟩, ⟨16, .data⟩], none⟩
def fok14_ops : Array Oper := #[fok14_o0, fok14_o1, fok14_o2, fok14_o3, fok14_o4, fok14_o5, fok14_o6, fok14_o7, fok14_o8, fok14_o9, fok14_o10, fok14_o11, fok14_o12, fok14_o13, fok14_o14, fok14_o15, fok14_o16, fok14_o17]
theorem fok14 {y rb d pn pc : Nat} {pa : Option Addr} (S : World → Prop) (a : Act) (w : World) (Q : Exit → Act → World → Prop) (zz : a.tmps.size = 145)
    (t3 : a.tmps.getD 3 undef = .slice pa pn pc)
    (t9 : a.tmps.getD 9 undef = .pointer (some ⟨y, 0, none⟩))
    (h0 : S w.drew) (L1 : ∀ W, S W → (Instr.loadAt 26 (.pointer (some ⟨y, 0 + 0, none⟩))).run Tryd.prog W = .ok (.pointer (some ⟨rb, 0, none⟩)) W) (L2 : ∀ W, S W → (Instr.loadAt 28 (.pointer (some ⟨y, 0 + 1, none⟩))).run Tryd.prog W = .ok (.pointer (some ⟨d, 0, none⟩)) W) (CA : Calls Tryd.prog 12 #[.pointer (some ⟨rb, 0, none⟩), .pointer (some ⟨d, 0, none⟩), .slice pa pn pc] w.drew fun e w2 => e = .returned (.bool true) ∧ S w2)
    (h : ∀ (a' : Act) (w' : World), S w' → a' = ((((((((((((((((((a).put (some 63) (.pointer (some ⟨y, 0, none⟩))).put (some 64) (.pointer (some ⟨y, 0, none⟩))).put (some 65) (.pointer (some ⟨y, 0 + 0, none⟩))).put (some 66) (.pointer (some ⟨rb, 0, none⟩))).put (some 67) (.bool false)).put (some 68) (.bool false)).put (some 69) (.pointer (some ⟨y, 0, none⟩))).put (some 70) (.pointer (some ⟨y, 0, none⟩))).put (some 71) (.pointer (some ⟨y, 0 + 0, none⟩))).put (some 72) (.pointer (some ⟨rb, 0, none⟩))).put (some 73) (.pointer (some ⟨y, 0, none⟩))).put (some 74) (.pointer (some ⟨y, 0, none⟩))).put (some 75) (.pointer (some ⟨y, 0 + 1, none⟩))).put (some 76) (.pointer (some ⟨d, 0, none⟩))).put (some 77) (.slice pa pn pc)).put (some 78) (.bool true)).put (some 79) (.bool false)).put (some 80) (.bool false) → Q .normal a' w') :
    (Code.region 14 fok14_ops true).wp Tryd.prog Q a w := by
  refine y0 (fun w' => S w') (h0) (fun hHeld => ?_)
  refine yv 0 rfl rfl (fun w1 hw => exec_move rfl (zi t9 rfl)) hHeld ?_
  refine yv 1 rfl rfl (fun w1 hw => exec_nilCheck rfl (zg zz rfl)) hHeld ?_
  refine yv 2 rfl rfl (fun w1 hw => exec_fieldAt rfl (zg zz rfl) (fg_33_0 _ _ _)) hHeld ?_
  refine yv 3 rfl rfl (fun w1 hw => exec_load rfl (zg zz rfl) (L1 _ hw)) hHeld ?_
  refine yv (v := .bool false) 4 rfl rfl (fun w1 hw => ex_pnil rfl (zg zz rfl) rfl) hHeld ?_
  refine yv 5 rfl rfl (fun w1 hw => exec_move rfl (zg zz rfl)) hHeld ?_
  refine yv 6 rfl (zw zz rfl rfl rfl (zg zz rfl)) (fun w1 hw => exec_move rfl (zi t9 rfl)) hHeld ?_
  refine yv 7 rfl (zw zz rfl rfl rfl (zg zz rfl)) (fun w1 hw => exec_nilCheck rfl (zg zz rfl)) hHeld ?_
  refine yv 8 rfl (zw zz rfl rfl rfl (zg zz rfl)) (fun w1 hw => exec_fieldAt rfl (zg zz rfl) (fg_33_0 _ _ _)) hHeld ?_
  refine yv 9 rfl (zw zz rfl rfl rfl (zg zz rfl)) (fun w1 hw => exec_load rfl (zg zz rfl) (L1 _ hw)) hHeld ?_
  refine yv 10 rfl (zw zz rfl rfl rfl (zg zz rfl)) (fun w1 hw => exec_move rfl (zi t9 rfl)) hHeld ?_
  refine yv 11 rfl (zw zz rfl rfl rfl (zg zz rfl)) (fun w1 hw => exec_nilCheck rfl (zg zz rfl)) hHeld ?_
  refine yv 12 rfl (zw zz rfl rfl rfl (zg zz rfl)) (fun w1 hw => exec_fieldAt rfl (zg zz rfl) (fg_33_1 _ _ _)) hHeld ?_
  refine yv 13 rfl (zw zz rfl rfl rfl (zg zz rfl)) (fun w1 hw => exec_load rfl (zg zz rfl) (L2 _ hw)) hHeld ?_
  refine yv 14 rfl (zw zz rfl rfl rfl (zg zz rfl)) (fun w1 hw => exec_move rfl (zi t3 rfl)) hHeld ?_
  refine yc 15 rfl (zw zz rfl rfl rfl (zg zz rfl)) (exec_c3 rfl (zg zz rfl) (zg zz rfl) (zg zz rfl)) (CA) (fun e x15 hx => ?_)
  obtain ⟨rfl, S1⟩ := hx
  refine ⟨_, rfl, S1, fun hHeld => ?_⟩
  refine yv 16 rfl (zw zz rfl rfl rfl (zg zz rfl)) (fun w1 hw => exec_not rfl (zg zz rfl)) hHeld ?_
  refine yv 17 rfl rfl (fun w1 hw => exec_pickF rfl (zg zz rfl) (zg zz rfl)) hHeld ?_
  exact ye rfl (h _ _ (S1) rfl)
def fok23_o0 : Oper := ⟨some 121, .move (.tmp 7), 25, "law.go:188", #[], none⟩
def fok23_o1 : Oper := ⟨some 122, .nilCheck (.tmp 121), 0, "law.go:188", #[⟨0, .data⟩], none⟩
def fok23_o2 : Oper := ⟨some 123, .fieldAddr 33 (.tmp 122) 0, 0, "law.go:188", #[⟨1, .data⟩], none⟩
def fok23_o3 : Oper := ⟨some 124, .load 26 (.tmp 123), 26, "law.go:188", #[⟨2, .data⟩], none⟩
def fok23_o4 : Oper := ⟨some 125, .move (.tmp 7), 25, "law.go:188", #[], none⟩
def fok23_o5 : Oper := ⟨some 126, .nilCheck (.tmp 125), 0, "law.go:188", #[⟨4, .data⟩], none⟩
def fok23_o6 : Oper := ⟨some 127, .fieldAddr 33 (.tmp 126) 1, 0, "law.go:188", #[⟨5, .data⟩], none⟩
def fok23_o7 : Oper := ⟨some 128, .load 28 (.tmp 127), 28, "law.go:188", #[⟨6, .data⟩], none⟩
def fok23_o8 : Oper := ⟨some 129, .move (.tmp 3), 22, "law.go:188", #[], none⟩
def fok23_o9 : Oper := ⟨some 130, .call { callee := Callee.value (Operand.func 12), args := #[.tmp 124, .tmp 128, .tmp 129], argTypes := #[26, 28, 22] }, 4, "law.go:188", #[⟨3, .data⟩, ⟨7, .data⟩, ⟨8, .data⟩], none⟩
def fok23_o10 : Oper := ⟨some 131, .unOp UnOp.not 4 (.tmp 130), 4, "law.go:188", #[⟨9, .data⟩], none⟩
def fok23_o11 : Oper := ⟨some 132, .move (.tmp 131), 4, "law.go:188", #[⟨10, .data⟩, ⟨9, .chain⟩], none⟩
def fok23_o12 : Oper := ⟨some 133, .move (.tmp 9), 25, "law.go:188", #[⟨11, .guard⟩], some (11, false)⟩
def fok23_o13 : Oper := ⟨some 134, .nilCheck (.tmp 133), 0, "law.go:188", #[⟨12, .data⟩, ⟨11, .guard⟩], some (11, false)⟩
def fok23_o14 : Oper := ⟨some 135, .fieldAddr 33 (.tmp 134) 0, 0, "law.go:188", #[⟨13, .data⟩, ⟨11, .guard⟩], some (11, false)⟩
def fok23_o15 : Oper := ⟨some 136, .load 26 (.tmp 135), 26, "law.go:188", #[⟨14, .data⟩, ⟨11, .guard⟩], some (11, false)⟩
def fok23_o16 : Oper := ⟨some 137, .move (.tmp 9), 25, "law.go:188", #[⟨11, .guard⟩], some (11, false)⟩
def fok23_o17 : Oper := ⟨some 138, .nilCheck (.tmp 137), 0, "law.go:188", #[⟨16, .data⟩, ⟨11, .guard⟩], some (11, false)⟩
def fok23_o18 : Oper := ⟨some 139, .fieldAddr 33 (.tmp 138) 1, 0, "law.go:188", #[⟨17, .data⟩, ⟨11, .guard⟩], some (11, false)⟩
def fok23_o19 : Oper := ⟨some 140, .load 28 (.tmp 139), 28, "law.go:188", #[⟨18, .data⟩, ⟨11, .guard⟩], some (11, false)⟩
def fok23_o20 : Oper := ⟨some 141, .move (.tmp 3), 22, "law.go:188", #[⟨11, .guard⟩], some (11, false)⟩
def fok23_o21 : Oper := ⟨some 142, .call { callee := Callee.value (Operand.func 12), args := #[.tmp 136, .tmp 140, .tmp 141], argTypes := #[26, 28, 22] }, 4, "law.go:188", #[⟨15, .data⟩, ⟨19, .data⟩, ⟨20, .data⟩, ⟨11, .chain⟩, ⟨11, .guard⟩], some (11, false)⟩
def fok23_o22 : Oper := ⟨some 143, .unOp UnOp.not 4 (.tmp 142), 4, "law.go:188", #[⟨21, .data⟩, ⟨11, .guard⟩], some (11, false)⟩
def fok23_o23 : Oper := ⟨some 144, .pick (.tmp 132) (Operand.const (Value.bool true)) (.tmp 143), 4, "law.go:188", #[⟨11, .data⟩, ⟨22, .data⟩], none⟩
def fok23_ops : Array Oper := #[fok23_o0, fok23_o1, fok23_o2, fok23_o3, fok23_o4, fok23_o5, fok23_o6, fok23_o7, fok23_o8, fok23_o9, fok23_o10, fok23_o11, fok23_o12, fok23_o13, fok23_o14, fok23_o15, fok23_o16, fok23_o17, fok23_o18, fok23_o19, fok23_o20, fok23_o21, fok23_o22, fok23_o23]
theorem fok23 {x y rb d ro dx pn pc : Nat} {pa : Option Addr} (S : World → Prop) (a : Act) (w : World) (Q : Exit → Act → World → Prop) (zz : a.tmps.size = 145)
    (t3 : a.tmps.getD 3 undef = .slice pa pn pc)
    (t7 : a.tmps.getD 7 undef = .pointer (some ⟨x, 0, none⟩))
    (t9 : a.tmps.getD 9 undef = .pointer (some ⟨y, 0, none⟩))
    (h0 : S w.drew) (L1 : ∀ W, S W → (Instr.loadAt 26 (.pointer (some ⟨y, 0 + 0, none⟩))).run Tryd.prog W = .ok (.pointer (some ⟨rb, 0, none⟩)) W) (L2 : ∀ W, S W → (Instr.loadAt 28 (.pointer (some ⟨y, 0 + 1, none⟩))).run Tryd.prog W = .ok (.pointer (some ⟨d, 0, none⟩)) W) (L3 : ∀ W, S W → (Instr.loadAt 26 (.pointer (some ⟨x, 0 + 0, none⟩))).run Tryd.prog W = .ok (.pointer (some ⟨ro, 0, none⟩)) W) (L4 : ∀ W, S W → (Instr.loadAt 28 (.pointer (some ⟨x, 0 + 1, none⟩))).run Tryd.prog W = .ok (.pointer (some ⟨dx, 0, none⟩)) W) (CA : Calls Tryd.prog 12 #[.pointer (some ⟨ro, 0, none⟩), .pointer (some ⟨dx, 0, none⟩), .slice pa pn pc] w.drew fun e w1 => e = .returned (.bool true) ∧ S w1 ∧ Calls Tryd.prog 12 #[.pointer (some ⟨rb, 0, none⟩), .pointer (some ⟨d, 0, none⟩), .slice pa pn pc] w1 fun e w2 => e = .returned (.bool true) ∧ S w2)
    (h : ∀ (a' : Act) (w' : World), S w' → a' = ((((((((((((((((((((((((a).put (some 121) (.pointer (some ⟨x, 0, none⟩))).put (some 122) (.pointer (some ⟨x, 0, none⟩))).put (some 123) (.pointer (some ⟨x, 0 + 0, none⟩))).put (some 124) (.pointer (some ⟨ro, 0, none⟩))).put (some 125) (.pointer (some ⟨x, 0, none⟩))).put (some 126) (.pointer (some ⟨x, 0, none⟩))).put (some 127) (.pointer (some ⟨x, 0 + 1, none⟩))).put (some 128) (.pointer (some ⟨dx, 0, none⟩))).put (some 129) (.slice pa pn pc)).put (some 130) (.bool true)).put (some 131) (.bool false)).put (some 132) (.bool false)).put (some 133) (.pointer (some ⟨y, 0, none⟩))).put (some 134) (.pointer (some ⟨y, 0, none⟩))).put (some 135) (.pointer (some ⟨y, 0 + 0, none⟩))).put (some 136) (.pointer (some ⟨rb, 0, none⟩))).put (some 137) (.pointer (some ⟨y, 0, none⟩))).put (some 138) (.pointer (some ⟨y, 0, none⟩))).put (some 139) (.pointer (some ⟨y, 0 + 1, none⟩))).put (some 140) (.pointer (some ⟨d, 0, none⟩))).put (some 141) (.slice pa pn pc)).put (some 142) (.bool true)).put (some 143) (.bool false)).put (some 144) (.bool false) → Q .normal a' w') :
    (Code.region 23 fok23_ops true).wp Tryd.prog Q a w := by
  refine y0 (fun w' => S w') (h0) (fun hHeld => ?_)
  refine yv 0 rfl rfl (fun w1 hw => exec_move rfl (zi t7 rfl)) hHeld ?_
  refine yv 1 rfl rfl (fun w1 hw => exec_nilCheck rfl (zg zz rfl)) hHeld ?_
  refine yv 2 rfl rfl (fun w1 hw => exec_fieldAt rfl (zg zz rfl) (fg_33_0 _ _ _)) hHeld ?_
  refine yv 3 rfl rfl (fun w1 hw => exec_load rfl (zg zz rfl) (L3 _ hw)) hHeld ?_
  refine yv 4 rfl rfl (fun w1 hw => exec_move rfl (zi t7 rfl)) hHeld ?_
  refine yv 5 rfl rfl (fun w1 hw => exec_nilCheck rfl (zg zz rfl)) hHeld ?_
  refine yv 6 rfl rfl (fun w1 hw => exec_fieldAt rfl (zg zz rfl) (fg_33_1 _ _ _)) hHeld ?_
  refine yv 7 rfl rfl (fun w1 hw => exec_load rfl (zg zz rfl) (L4 _ hw)) hHeld ?_
  refine yv 8 rfl rfl (fun w1 hw => exec_move rfl (zi t3 rfl)) hHeld ?_
  refine yc 9 rfl rfl (exec_c3 rfl (zg zz rfl) (zg zz rfl) (zg zz rfl)) (CA) (fun e x9 hx => ?_)
  obtain ⟨rfl, S1, CB⟩ := hx
  refine ⟨_, rfl, S1, fun hHeld => ?_⟩
  refine yv 10 rfl rfl (fun w1 hw => exec_not rfl (zg zz rfl)) hHeld ?_
  refine yv 11 rfl rfl (fun w1 hw => exec_move rfl (zg zz rfl)) hHeld ?_
  refine yv 12 rfl (zw zz rfl rfl rfl (zg zz rfl)) (fun w1 hw => exec_move rfl (zi t9 rfl)) hHeld ?_
  refine yv 13 rfl (zw zz rfl rfl rfl (zg zz rfl)) (fun w1 hw => exec_nilCheck rfl (zg zz rfl)) hHeld ?_
  refine yv 14 rfl (zw zz rfl rfl rfl (zg zz rfl)) (fun w1 hw => exec_fieldAt rfl (zg zz rfl) (fg_33_0 _ _ _)) hHeld ?_
  refine yv 15 rfl (zw zz rfl rfl rfl (zg zz rfl)) (fun w1 hw => exec_load rfl (zg zz rfl) (L1 _ hw)) hHeld ?_
  refine yv 16 rfl (zw zz rfl rfl rfl (zg zz rfl)) (fun w1 hw => exec_move rfl (zi t9 rfl)) hHeld ?_
  refine yv 17 rfl (zw zz rfl rfl rfl (zg zz rfl)) (fun w1 hw => exec_nilCheck rfl (zg zz rfl)) hHeld ?_
  refine yv 18 rfl (zw zz rfl rfl rfl (zg zz rfl)) (fun w1 hw => exec_fieldAt rfl (zg zz rfl) (fg_33_1 _ _ _)) hHeld ?_
  refine yv 19 rfl (zw zz rfl rfl rfl (zg zz rfl)) (fun w1 hw => exec_load rfl (zg zz rfl) (L2 _ hw)) hHeld ?_
  refine yv 20 rfl (zw zz rfl rfl rfl (zg zz rfl)) (fun w1 hw => exec_move rfl (zi t3 rfl)) hHeld ?_
  refine yc 21 rfl (zw zz rfl rfl rfl (zg zz rfl)) (exec_c3 rfl (zg zz rfl) (zg zz rfl) (zg zz rfl)) (CB) (fun e x21 hx => ?_)
  obtain ⟨rfl, S2⟩ := hx
  refine ⟨_, rfl, S2, fun hHeld => ?_⟩
  refine yv 22 rfl (zw zz rfl rfl rfl (zg zz rfl)) (fun w1 hw => exec_not rfl (zg zz rfl)) hHeld ?_
  refine yv 23 rfl rfl (fun w1 hw => exec_pickF rfl (zg zz rfl) (zg zz rfl)) hHeld ?_
  exact ye rfl (h _ _ (S2) rfl)
def rfk13_o0 : Oper := ⟨some 39, .move (.tmp 7), 25, "law.go:177", #[], none⟩
def rfk13_o1 : Oper := ⟨some 40, .nilCheck (.tmp 39), 0, "law.go:177", #[⟨0, .data⟩], none⟩
def rfk13_o2 : Oper := ⟨some 41, .fieldAddr 33 (.tmp 40) 0, 0, "law.go:177", #[⟨1, .data⟩], none⟩
def rfk13_o3 : Oper := ⟨some 42, .load 26 (.tmp 41), 26, "law.go:177", #[⟨2, .data⟩], none⟩
def rfk13_o4 : Oper := ⟨some 43, .call { callee := Callee.value (Operand.func 13), args := #[.tmp 42], argTypes := #[26] }, 26, "law.go:177", #[⟨3, .data⟩], none⟩
def rfk13_o5 : Oper := ⟨some 44, .move (.tmp 7), 25, "law.go:177", #[], none⟩
def rfk13_o6 : Oper := ⟨some 45, .nilCheck (.tmp 44), 0, "law.go:177", #[⟨5, .data⟩], none⟩
def rfk13_o7 : Oper := ⟨some 46, .fieldAddr 33 (.tmp 45) 1, 0, "law.go:177", #[⟨6, .data⟩], none⟩
def rfk13_o8 : Oper := ⟨some 47, .load 28 (.tmp 46), 28, "law.go:177", #[⟨7, .data⟩], none⟩
def rfk13_o9 : Oper := ⟨some 48, .call { callee := Callee.value (Operand.func 14), args := #[.tmp 47], argTypes := #[28] }, 28, "law.go:177", #[⟨8, .data⟩, ⟨4, .chain⟩], none⟩
def rfk13_o10 : Oper := ⟨some 49, .buildSlice 30 0 #[], 30, "law.go:177", #[], none⟩
def rfk13_o11 : Oper := ⟨some 50, .move (.tmp 7), 25, "law.go:177", #[], none⟩
def rfk13_o12 : Oper := ⟨some 51, .nilCheck (.tmp 50), 0, "law.go:177", #[⟨11, .data⟩], none⟩
def rfk13_o13 : Oper := ⟨some 52, .fieldAddr 33 (.tmp 51) 2, 0, "law.go:177", #[⟨12, .data⟩], none⟩
def rfk13_o14 : Oper := ⟨some 53, .load 30 (.tmp 52), 30, "law.go:177", #[⟨13, .data⟩], none⟩
def rfk13_o15 : Oper := ⟨some 54, .call { callee := Callee.builtin Builtin.append, args := #[.tmp 49, .tmp 53], argTypes := #[30, 30] }, 30, "law.go:177", #[⟨10, .data⟩, ⟨14, .data⟩, ⟨9, .chain⟩], none⟩
def rfk13_o16 : Oper := ⟨some 55, .buildSlice 31 0 #[], 31, "law.go:177", #[], none⟩
def rfk13_o17 : Oper := ⟨some 56, .move (.tmp 7), 25, "law.go:177", #[], none⟩
def rfk13_o18 : Oper := ⟨some 57, .nilCheck (.tmp 56), 0, "law.go:177", #[⟨17, .data⟩], none⟩
def rfk13_o19 : Oper := ⟨some 58, .fieldAddr 33 (.tmp 57) 3, 0, "law.go:177", #[⟨18, .data⟩], none⟩
def rfk13_o20 : Oper := ⟨some 59, .load 31 (.tmp 58), 31, "law.go:177", #[⟨19, .data⟩], none⟩
def rfk13_o21 : Oper := ⟨some 60, .call { callee := Callee.builtin Builtin.append, args := #[.tmp 55, .tmp 59], argTypes := #[31, 31] }, 31, "law.go:177", #[⟨16, .data⟩, ⟨20, .data⟩, ⟨15, .chain⟩], none⟩
def rfk13_o22 : Oper := ⟨some 61, .build 33 #[(0, .tmp 43), (1, .tmp 48), (2, .tmp 54), (3, .tmp 60)], 33, "law.go:177", #[⟨4, .data⟩, ⟨9, .data⟩, ⟨15, .data⟩, ⟨21, .data⟩], none⟩
def rfk13_o23 : Oper := ⟨some 62, .box 33 (.tmp 61), 25, "law.go:177", #[⟨22, .data⟩], none⟩
def rfk13_o24 : Oper := ⟨some 9, .assign (.tmp 62), 25, "law.go:177", #[⟨23, .data⟩, ⟨21, .chain⟩, ⟨0, .phase⟩, ⟨1, .phase⟩, ⟨2, .phase⟩, ⟨3, .phase⟩, ⟨4, .phase⟩, ⟨5, .phase⟩, ⟨6, .phase⟩, ⟨7, .phase⟩, ⟨8, .phase⟩, ⟨9, .phase⟩, ⟨10, .phase⟩, ⟨11, .phase⟩, ⟨12, .phase⟩, ⟨13, .phase⟩, ⟨14, .phase⟩, ⟨15, .phase⟩, ⟨16, .phase⟩, ⟨17, .phase⟩, ⟨18, .phase⟩, ⟨19, .phase⟩, ⟨20, .phase⟩, ⟨21, .phase⟩, ⟨22, .phase⟩, ⟨23, .phase⟩], none⟩
def rfk13_ops : Array Oper := #[rfk13_o0, rfk13_o1, rfk13_o2, rfk13_o3, rfk13_o4, rfk13_o5, rfk13_o6, rfk13_o7, rfk13_o8, rfk13_o9, rfk13_o10, rfk13_o11, rfk13_o12, rfk13_o13, rfk13_o14, rfk13_o15, rfk13_o16, rfk13_o17, rfk13_o18, rfk13_o19, rfk13_o20, rfk13_o21, rfk13_o22, rfk13_o23, rfk13_o24]
set_option linter.unusedSectionVars false
section
variable {S : World → Prop} {St : World → Option Value → Option Value → Option Value → Option Value → Option Value → Option Value → Prop} {Fin : Value → Value → Value → Value → Value → World → Prop} {x : Nat} {tv dv bv0 sv0 : Value} {p : Act} {Q : Exit → Act → World → Prop}
    (SS : ∀ W o4 o9 o10 o15 o16 o21, St W o4 o9 o10 o15 o16 o21 → S W) 
    (K4 : ∀ W o10 o16, St W none none o10 none o16 none → Calls Tryd.prog 13 #[tv] W fun e w' => ∃ v, e = .returned v ∧ St w' (some v) none o10 none o16 none)
    (K9 : ∀ W v4 o10 o16, St W (some v4) none o10 none o16 none → Calls Tryd.prog 14 #[dv] W fun e w' => ∃ v, e = .returned v ∧ St w' (some v4) (some v) o10 none o16 none)
    (K10 : ∀ W o4 o9 o16, St W o4 o9 none none o16 none → ∃ v w2, (Instr.buildSlice 30 0 #[]).run Tryd.prog W = .ok v w2 ∧ St w2 o4 o9 (some v) none o16 none)
    (K16 : ∀ W o4 o9 o10 o15, St W o4 o9 o10 o15 none none → ∃ v w2, (Instr.buildSlice 31 0 #[]).run Tryd.prog W = .ok v w2 ∧ St w2 o4 o9 o10 o15 (some v) none)
    (K15 : ∀ W v4 v9 v10 o16, St W (some v4) (some v9) (some v10) none o16 none → ∃ v w2, (Builtin.append_ #[30, 30] 30 #[v10, bv0]).run Tryd.prog W = .ok v w2 ∧ St w2 (some v4) (some v9) (some v10) (some v) o16 none)
    (K21 : ∀ W v4 v9 v10 v15 v16, St W (some v4) (some v9) (some v10) (some v15) (some v16) none → ∃ v w2, (Builtin.append_ #[31, 31] 31 #[v16, sv0]).run Tryd.prog W = .ok v w2 ∧ St w2 (some v4) (some v9) (some v10) (some v15) (some v16) (some v))
    (KB : ∀ W v4 v9 v10 v15 v16 v21, St W (some v4) (some v9) (some v10) (some v15) (some v16) (some v21) → ∃ bv pv w2, (∀ W', (Instr.build 33 #[(0, v4), (1, v9), (2, v15), (3, v21)]).run Tryd.prog W' = .ok bv W') ∧ (Instr.box 33 bv).run Tryd.prog W = .ok pv w2 ∧ S w2 ∧ Fin v4 v9 v15 v21 pv w2)
    (h : ∀ (v4 v9 v10 v15 v16 v21 bv pv : Value) (a' : Act) (w' : World), Fin v4 v9 v15 v21 pv w' → a' = (((((((((p).put (some 43) v4).put (some 48) v9).put (some 49) v10).put (some 54) v15).put (some 55) v16).put (some 60) v21).put (some 61) bv).put (some 62) pv).put (some 9) pv → Q .normal a' w')
include SS K4 K9 K10 K16 K15 K21 KB h
theorem rf13_4_9_10_15_16_21 (L : Array Bool) (n : Nat) (hL : L = #[true, true, true, true, true, true, true, true, true, true, true, true, true, true, true, true, true, true, true, true, true, true, false, false, false]) (hn : n = 3) (v4 v9 v10 v15 v16 v21 : Value) (c : Act) (W : World) (hc : c = ((((((p).put (some 43) v4).put (some 48) v9).put (some 49) v10).put (some 54) v15).put (some 55) v16).put (some 60) v21) (z : c.tmps.size = 145) (t43 : c.tmps.getD 43 undef = v4) (t48 : c.tmps.getD 48 undef = v9) (t54 : c.tmps.getD 54 undef = v15) (t60 : c.tmps.getD 60 undef = v21) (st : St W (some v4) (some v9) (some v10) (some v15) (some v16) (some v21)) :
    wpAnyH Tryd.prog .any rfk13_ops (NoPanic Q) S n L c W := by
  subst hL hn
  have HC := hidMk hc
  clear hc
  obtain ⟨bv, pv, yb, GB, EB, SF, HF⟩ := KB _ _ _ _ _ _ _ st
  refine tk 22 rfk13_o22 bv (by rfl) (fun w1 hw => exec_build4 rfl t43 t48 t54 t60 (GB _)) (SS _ _ _ _ _ _ _ st) (fun a1 e1 => ?_)
  have z1 := pz e1 z
  have t61 := pq e1 z
  refine wpAnyH_ready (rs := [23]) (by kernel_rfl) (by simp) ?_
  refine AllReadyH.cons (o := rfk13_o23) rfl (fun K hK => ?_) AllReadyH.nil
  have X := exec_boxE (P := Tryd.prog) (a := a1) (o := rfk13_o23) rfl t61 EB
  rw [if_pos (by rfl), Oper.wp, X]
  show K _ _
  clear X
  refine hK.out _ _ SF (fun hHeld => ?_)
  clear hK K
  change wpAnyH _ _ _ _ _ _ _ (a1.put (some 62) pv) _
  obtain ⟨a2, e2⟩ : ∃ act, act = a1.put (some 62) pv := ⟨_, rfl⟩
  rw [← e2]
  have z2 := pz e2 z1
  have t62 := pq e2 z1
  refine tk 24 rfk13_o24 pv (by rfl) (fun w1 hw => exec_assign rfl t62) hHeld (fun a3 e3 => ?_)
  exact wpAnyH_done (by kernel_rfl) (NoPanic.normal (h _ _ _ _ _ _ _ _ _ _ HF (by rw [e3, e2, e1, HC.out]))) _
theorem rf13_4_9_10_15_16 (L : Array Bool) (n : Nat) (hL : L = #[true, true, true, true, true, true, true, true, true, true, true, true, true, true, true, true, true, true, true, true, true, false, false, false, false]) (hn : n = 4) (v4 v9 v10 v15 v16 : Value) (c : Act) (W : World) (hc : c = (((((p).put (some 43) v4).put (some 48) v9).put (some 49) v10).put (some 54) v15).put (some 55) v16) (z : c.tmps.size = 145) (t55 : c.tmps.getD 55 undef = v16) (t59 : c.tmps.getD 59 undef = sv0) (t43 : c.tmps.getD 43 undef = v4) (t48 : c.tmps.getD 48 undef = v9) (t54 : c.tmps.getD 54 undef = v15) (st : St W (some v4) (some v9) (some v10) (some v15) (some v16) none) :
    wpAnyH Tryd.prog .any rfk13_ops (NoPanic Q) S n L c W := by
  subst hL hn
  have HC := hidMk hc
  clear hc
  refine wpAnyH_ready (rs := [21]) (by kernel_rfl) (by simp) ?_
  refine AllReadyH.cons (o := rfk13_o21) rfl (fun K hK => ?_) (AllReadyH.nil)
  · obtain ⟨v21, y, E, st⟩ := K21 _ _ _ _ _ _ st
    have X := exec_append (P := Tryd.prog) (a := c) (o := rfk13_o21) rfl t55 t59 E
    rw [if_pos (by rfl), Oper.wp, X]
    show K _ _
    clear X
    refine hK.out _ _ (SS _ _ _ _ _ _ _ st) (fun hHeld => ?_)
    clear hK K
    change wpAnyH _ _ _ _ _ _ _ (c.put (some 60) v21) _
    obtain ⟨c2, e⟩ : ∃ act, act = c.put (some 60) v21 := ⟨_, rfl⟩
    rw [← e]
    exact rf13_4_9_10_15_16_21 SS K4 K9 K10 K16 K15 K21 KB h _ _ (by kernel_rfl) (by kernel_rfl) v4 v9 v10 v15 v16 v21 c2 _ (by rw [e, HC.out]) (pz e z) (pk e t43) (pk e t48) (pk e t54) (pq e z) st
theorem rf13_4_9_10_15 (L : Array Bool) (n : Nat) (hL : L = #[true, true, true, true, true, true, true, true, true, true, true, true, true, true, true, true, false, true, true, true, true, false, false, false, false]) (hn : n = 5) (v4 v9 v10 v15 : Value) (c : Act) (W : World) (hc : c = ((((p).put (some 43) v4).put (some 48) v9).put (some 49) v10).put (some 54) v15) (z : c.tmps.size = 145) (t59 : c.tmps.getD 59 undef = sv0) (t43 : c.tmps.getD 43 undef = v4) (t48 : c.tmps.getD 48 undef = v9) (t54 : c.tmps.getD 54 undef = v15) (st : St W (some v4) (some v9) (some v10) (some v15) none none) :
    wpAnyH Tryd.prog .any rfk13_ops (NoPanic Q) S n L c W := by
  subst hL hn
  have HC := hidMk hc
  clear hc
  refine wpAnyH_ready (rs := [16]) (by kernel_rfl) (by simp) ?_
  refine AllReadyH.cons (o := rfk13_o16) rfl (fun K hK => ?_) (AllReadyH.nil)
  · obtain ⟨v16, y, E, st⟩ := K16 _ _ _ _ _ st
    have X := exec_bs0 (P := Tryd.prog) (a := c) (o := rfk13_o16) rfl E
    rw [if_pos (by rfl), Oper.wp, X]
    show K _ _
    clear X
    refine hK.out _ _ (SS _ _ _ _ _ _ _ st) (fun hHeld => ?_)
    clear hK K
    change wpAnyH _ _ _ _ _ _ _ (c.put (some 55) v16) _
    obtain ⟨c2, e⟩ : ∃ act, act = c.put (some 55) v16 := ⟨_, rfl⟩
    rw [← e]
    exact rf13_4_9_10_15_16 SS K4 K9 K10 K16 K15 K21 KB h _ _ (by kernel_rfl) (by kernel_rfl) v4 v9 v10 v15 v16 c2 _ (by rw [e, HC.out]) (pz e z) (pq e z) (pk e t59) (pk e t43) (pk e t48) (pk e t54) st
theorem rf13_4_9_10_16 (L : Array Bool) (n : Nat) (hL : L = #[true, true, true, true, true, true, true, true, true, true, true, true, true, true, true, false, true, true, true, true, true, false, false, false, false]) (hn : n = 5) (v4 v9 v10 v16 : Value) (c : Act) (W : World) (hc : c = ((((p).put (some 43) v4).put (some 48) v9).put (some 49) v10).put (some 55) v16) (z : c.tmps.size = 145) (t49 : c.tmps.getD 49 undef = v10) (t53 : c.tmps.getD 53 undef = bv0) (t55 : c.tmps.getD 55 undef = v16) (t59 : c.tmps.getD 59 undef = sv0) (t43 : c.tmps.getD 43 undef = v4) (t48 : c.tmps.getD 48 undef = v9) (st : St W (some v4) (some v9) (some v10) none (some v16) none) :
    wpAnyH Tryd.prog .any rfk13_ops (NoPanic Q) S n L c W := by
  subst hL hn
  have HC := hidMk hc
  clear hc
  refine wpAnyH_ready (rs := [15]) (by kernel_rfl) (by simp) ?_
  refine AllReadyH.cons (o := rfk13_o15) rfl (fun K hK => ?_) (AllReadyH.nil)
  · obtain ⟨v15, y, E, st⟩ := K15 _ _ _ _ _ st
    have X := exec_append (P := Tryd.prog) (a := c) (o := rfk13_o15) rfl t49 t53 E
    rw [if_pos (by rfl), Oper.wp, X]
    show K _ _
    clear X
    refine hK.out _ _ (SS _ _ _ _ _ _ _ st) (fun hHeld => ?_)
    clear hK K
    change wpAnyH _ _ _ _ _ _ _ (c.put (some 54) v15) _
    obtain ⟨c2, e⟩ : ∃ act, act = c.put (some 54) v15 := ⟨_, rfl⟩
    rw [← e]
    exact rf13_4_9_10_15_16 SS K4 K9 K10 K16 K15 K21 KB h _ _ (by kernel_rfl) (by kernel_rfl) v4 v9 v10 v15 v16 c2 _ (by rw [e, HC.out]; simp (disch := decide) only [put_sort]) (pz e z) (pk e t55) (pk e t59) (pk e t43) (pk e t48) (pq e z) st
theorem rf13_4_9_10 (L : Array Bool) (n : Nat) (hL : L = #[true, true, true, true, true, true, true, true, true, true, true, true, true, true, true, false, false, true, true, true, true, false, false, false, false]) (hn : n = 6) (v4 v9 v10 : Value) (c : Act) (W : World) (hc : c = (((p).put (some 43) v4).put (some 48) v9).put (some 49) v10) (z : c.tmps.size = 145) (t49 : c.tmps.getD 49 undef = v10) (t53 : c.tmps.getD 53 undef = bv0) (t59 : c.tmps.getD 59 undef = sv0) (t43 : c.tmps.getD 43 undef = v4) (t48 : c.tmps.getD 48 undef = v9) (st : St W (some v4) (some v9) (some v10) none none none) :
    wpAnyH Tryd.prog .any rfk13_ops (NoPanic Q) S n L c W := by
  subst hL hn
  have HC := hidMk hc
  clear hc
  refine wpAnyH_ready (rs := [15, 16]) (by kernel_rfl) (by simp) ?_
  refine AllReadyH.cons (o := rfk13_o15) rfl (fun K hK => ?_) (AllReadyH.cons (o := rfk13_o16) rfl (fun K hK => ?_) (AllReadyH.nil))
  · obtain ⟨v15, y, E, st⟩ := K15 _ _ _ _ _ st
    have X := exec_append (P := Tryd.prog) (a := c) (o := rfk13_o15) rfl t49 t53 E
    rw [if_pos (by rfl), Oper.wp, X]
    show K _ _
    clear X
    refine hK.out _ _ (SS _ _ _ _ _ _ _ st) (fun hHeld => ?_)
    clear hK K
    change wpAnyH _ _ _ _ _ _ _ (c.put (some 54) v15) _
    obtain ⟨c2, e⟩ : ∃ act, act = c.put (some 54) v15 := ⟨_, rfl⟩
    rw [← e]
    exact rf13_4_9_10_15 SS K4 K9 K10 K16 K15 K21 KB h _ _ (by kernel_rfl) (by kernel_rfl) v4 v9 v10 v15 c2 _ (by rw [e, HC.out]) (pz e z) (pk e t59) (pk e t43) (pk e t48) (pq e z) st
  · obtain ⟨v16, y, E, st⟩ := K16 _ _ _ _ _ st
    have X := exec_bs0 (P := Tryd.prog) (a := c) (o := rfk13_o16) rfl E
    rw [if_pos (by rfl), Oper.wp, X]
    show K _ _
    clear X
    refine hK.out _ _ (SS _ _ _ _ _ _ _ st) (fun hHeld => ?_)
    clear hK K
    change wpAnyH _ _ _ _ _ _ _ (c.put (some 55) v16) _
    obtain ⟨c2, e⟩ : ∃ act, act = c.put (some 55) v16 := ⟨_, rfl⟩
    rw [← e]
    exact rf13_4_9_10_16 SS K4 K9 K10 K16 K15 K21 KB h _ _ (by kernel_rfl) (by kernel_rfl) v4 v9 v10 v16 c2 _ (by rw [e, HC.out]) (pz e z) (pk e t49) (pk e t53) (pq e z) (pk e t59) (pk e t43) (pk e t48) st
theorem rf13_4_9_16 (L : Array Bool) (n : Nat) (hL : L = #[true, true, true, true, true, true, true, true, true, true, false, true, true, true, true, false, true, true, true, true, true, false, false, false, false]) (hn : n = 6) (v4 v9 v16 : Value) (c : Act) (W : World) (hc : c = (((p).put (some 43) v4).put (some 48) v9).put (some 55) v16) (z : c.tmps.size = 145) (t53 : c.tmps.getD 53 undef = bv0) (t55 : c.tmps.getD 55 undef = v16) (t59 : c.tmps.getD 59 undef = sv0) (t43 : c.tmps.getD 43 undef = v4) (t48 : c.tmps.getD 48 undef = v9) (st : St W (some v4) (some v9) none none (some v16) none) :
    wpAnyH Tryd.prog .any rfk13_ops (NoPanic Q) S n L c W := by
  subst hL hn
  have HC := hidMk hc
  clear hc
  refine wpAnyH_ready (rs := [10]) (by kernel_rfl) (by simp) ?_
  refine AllReadyH.cons (o := rfk13_o10) rfl (fun K hK => ?_) (AllReadyH.nil)
  · obtain ⟨v10, y, E, st⟩ := K10 _ _ _ _ st
    have X := exec_bs0 (P := Tryd.prog) (a := c) (o := rfk13_o10) rfl E
    rw [if_pos (by rfl), Oper.wp, X]
    show K _ _
    clear X
    refine hK.out _ _ (SS _ _ _ _ _ _ _ st) (fun hHeld => ?_)
    clear hK K
    change wpAnyH _ _ _ _ _ _ _ (c.put (some 49) v10) _
    obtain ⟨c2, e⟩ : ∃ act, act = c.put (some 49) v10 := ⟨_, rfl⟩
    rw [← e]
    exact rf13_4_9_10_16 SS K4 K9 K10 K16 K15 K21 KB h _ _ (by kernel_rfl) (by kernel_rfl) v4 v9 v10 v16 c2 _ (by rw [e, HC.out]; simp (disch := decide) only [put_sort]) (pz e z) (pq e z) (pk e t53) (pk e t55) (pk e t59) (pk e t43) (pk e t48) st
theorem rf13_4_9 (L : Array Bool) (n : Nat) (hL : L = #[true, true, true, true, true, true, true, true, true, true, false, true, true, true, true, false, false, true, true, true, true, false, false, false, false]) (hn : n = 7) (v4 v9 : Value) (c : Act) (W : World) (hc : c = ((p).put (some 43) v4).put (some 48) v9) (z : c.tmps.size = 145) (t53 : c.tmps.getD 53 undef = bv0) (t59 : c.tmps.getD 59 undef = sv0) (t43 : c.tmps.getD 43 undef = v4) (t48 : c.tmps.getD 48 undef = v9) (st : St W (some v4) (some v9) none none none none) :
    wpAnyH Tryd.prog .any rfk13_ops (NoPanic Q) S n L c W := by
  subst hL hn
  have HC := hidMk hc
  clear hc
  refine wpAnyH_ready (rs := [10, 16]) (by kernel_rfl) (by simp) ?_
  refine AllReadyH.cons (o := rfk13_o10) rfl (fun K hK => ?_) (AllReadyH.cons (o := rfk13_o16) rfl (fun K hK => ?_) (AllReadyH.nil))
  · obtain ⟨v10, y, E, st⟩ := K10 _ _ _ _ st
    have X := exec_bs0 (P := Tryd.prog) (a := c) (o := rfk13_o10) rfl E
    rw [if_pos (by rfl), Oper.wp, X]
    show K _ _
    clear X
    refine hK.out _ _ (SS _ _ _ _ _ _ _ st) (fun hHeld => ?_)
    clear hK K
    change wpAnyH _ _ _ _ _ _ _ (c.put (some 49) v10) _
    obtain ⟨c2, e⟩ : ∃ act, act = c.put (some 49) v10 := ⟨_, rfl⟩
    rw [← e]
    exact rf13_4_9_10 SS K4 K9 K10 K16 K15 K21 KB h _ _ (by kernel_rfl) (by kernel_rfl) v4 v9 v10 c2 _ (by rw [e, HC.out]) (pz e z) (pq e z) (pk e t53) (pk e t59) (pk e t43) (pk e t48) st
  · obtain ⟨v16, y, E, st⟩ := K16 _ _ _ _ _ st
    have X := exec_bs0 (P := Tryd.prog) (a := c) (o := rfk13_o16) rfl E
    rw [if_pos (by rfl), Oper.wp, X]
    show K _ _
    clear X
    refine hK.out _ _ (SS _ _ _ _ _ _ _ st) (fun hHeld => ?_)
    clear hK K
    change wpAnyH _ _ _ _ _ _ _ (c.put (some 55) v16) _
    obtain ⟨c2, e⟩ : ∃ act, act = c.put (some 55) v16 := ⟨_, rfl⟩
    rw [← e]
    exact rf13_4_9_16 SS K4 K9 K10 K16 K15 K21 KB h _ _ (by kernel_rfl) (by kernel_rfl) v4 v9 v16 c2 _ (by rw [e, HC.out]) (pz e z) (pk e t53) (pq e z) (pk e t59) (pk e t43) (pk e t48) st
theorem rf13_4_10_16 (L : Array Bool) (n : Nat) (hL : L = #[true, true, true, true, true, true, true, true, true, false, true, true, true, true, true, false, true, true, true, true, true, false, false, false, false]) (hn : n = 6) (v4 v10 v16 : Value) (c : Act) (W : World) (hc : c = (((p).put (some 43) v4).put (some 49) v10).put (some 55) v16) (z : c.tmps.size = 145) (t47 : c.tmps.getD 47 undef = dv) (t49 : c.tmps.getD 49 undef = v10) (t53 : c.tmps.getD 53 undef = bv0) (t55 : c.tmps.getD 55 undef = v16) (t59 : c.tmps.getD 59 undef = sv0) (t43 : c.tmps.getD 43 undef = v4) (st : St W (some v4) none (some v10) none (some v16) none) :
    wpAnyH Tryd.prog .any rfk13_ops (NoPanic Q) S n L c W := by
  subst hL hn
  have HC := hidMk hc
  clear hc
  refine wpAnyH_ready (rs := [9]) (by kernel_rfl) (by simp) ?_
  refine AllReadyH.cons (o := rfk13_o9) rfl (fun K hK => ?_) (AllReadyH.nil)
  · rw [if_pos (by rfl)]
    unfold rfk13_o9 at hK ⊢
    go_simp
    refine (K9 _ _ _ _ st).mono ?_
    rintro e y ⟨v9, rfl, st⟩
    try go_wp2_with fail
    refine hK.out _ _ (SS _ _ _ _ _ _ _ st) (fun hHeld => ?_)
    clear hK K
    change wpAnyH _ _ _ _ _ _ _ (c.put (some 48) v9) _
    obtain ⟨c2, e⟩ : ∃ act, act = c.put (some 48) v9 := ⟨_, rfl⟩
    rw [← e]
    exact rf13_4_9_10_16 SS K4 K9 K10 K16 K15 K21 KB h _ _ (by kernel_rfl) (by kernel_rfl) v4 v9 v10 v16 c2 _ (by rw [e, HC.out]; simp (disch := decide) only [put_sort]) (pz e z) (pk e t49) (pk e t53) (pk e t55) (pk e t59) (pk e t43) (pq e z) st
theorem rf13_4_10 (L : Array Bool) (n : Nat) (hL : L = #[true, true, true, true, true, true, true, true, true, false, true, true, true, true, true, false, false, true, true, true, true, false, false, false, false]) (hn : n = 7) (v4 v10 : Value) (c : Act) (W : World) (hc : c = ((p).put (some 43) v4).put (some 49) v10) (z : c.tmps.size = 145) (t47 : c.tmps.getD 47 undef = dv) (t49 : c.tmps.getD 49 undef = v10) (t53 : c.tmps.getD 53 undef = bv0) (t59 : c.tmps.getD 59 undef = sv0) (t43 : c.tmps.getD 43 undef = v4) (st : St W (some v4) none (some v10) none none none) :
    wpAnyH Tryd.prog .any rfk13_ops (NoPanic Q) S n L c W := by
  subst hL hn
  have HC := hidMk hc
  clear hc
  refine wpAnyH_ready (rs := [9, 16]) (by kernel_rfl) (by simp) ?_
  refine AllReadyH.cons (o := rfk13_o9) rfl (fun K hK => ?_) (AllReadyH.cons (o := rfk13_o16) rfl (fun K hK => ?_) (AllReadyH.nil))
  · rw [if_pos (by rfl)]
    unfold rfk13_o9 at hK ⊢
    go_simp
    refine (K9 _ _ _ _ st).mono ?_
    rintro e y ⟨v9, rfl, st⟩
    try go_wp2_with fail
    refine hK.out _ _ (SS _ _ _ _ _ _ _ st) (fun hHeld => ?_)
    clear hK K
    change wpAnyH _ _ _ _ _ _ _ (c.put (some 48) v9) _
    obtain ⟨c2, e⟩ : ∃ act, act = c.put (some 48) v9 := ⟨_, rfl⟩
    rw [← e]
    exact rf13_4_9_10 SS K4 K9 K10 K16 K15 K21 KB h _ _ (by kernel_rfl) (by kernel_rfl) v4 v9 v10 c2 _ (by rw [e, HC.out]; simp (disch := decide) only [put_sort]) (pz e z) (pk e t49) (pk e t53) (pk e t59) (pk e t43) (pq e z) st
  · obtain ⟨v16, y, E, st⟩ := K16 _ _ _ _ _ st
    have X := exec_bs0 (P := Tryd.prog) (a := c) (o := rfk13_o16) rfl E
    rw [if_pos (by rfl), Oper.wp, X]
    show K _ _
    clear X
    refine hK.out _ _ (SS _ _ _ _ _ _ _ st) (fun hHeld => ?_)
    clear hK K
    change wpAnyH _ _ _ _ _ _ _ (c.put (some 55) v16) _
    obtain ⟨c2, e⟩ : ∃ act, act = c.put (some 55) v16 := ⟨_, rfl⟩
    rw [← e]
    exact rf13_4_10_16 SS K4 K9 K10 K16 K15 K21 KB h _ _ (by kernel_rfl) (by kernel_rfl) v4 v10 v16 c2 _ (by rw [e, HC.out]) (pz e z) (pk e t47) (pk e t49) (pk e t53) (pq e z) (pk e t59) (pk e t43) st
theorem rf13_4_16 (L : Array Bool) (n : Nat) (hL : L = #[true, true, true, true, true, true, true, true, true, false, false, true, true, true, true, false, true, true, true, true, true, false, false, false, false]) (hn : n = 7) (v4 v16 : Value) (c : Act) (W : World) (hc : c = ((p).put (some 43) v4).put (some 55) v16) (z : c.tmps.size = 145) (t47 : c.tmps.getD 47 undef = dv) (t53 : c.tmps.getD 53 undef = bv0) (t55 : c.tmps.getD 55 undef = v16) (t59 : c.tmps.getD 59 undef = sv0) (t43 : c.tmps.getD 43 undef = v4) (st : St W (some v4) none none none (some v16) none) :
    wpAnyH Tryd.prog .any rfk13_ops (NoPanic Q) S n L c W := by
  subst hL hn
  have HC := hidMk hc
  clear hc
  refine wpAnyH_ready (rs := [9, 10]) (by kernel_rfl) (by simp) ?_
  refine AllReadyH.cons (o := rfk13_o9) rfl (fun K hK => ?_) (AllReadyH.cons (o := rfk13_o10) rfl (fun K hK => ?_) (AllReadyH.nil))
  · rw [if_pos (by rfl)]
    unfold rfk13_o9 at hK ⊢
    go_simp
    refine (K9 _ _ _ _ st).mono ?_
    rintro e y ⟨v9, rfl, st⟩
    try go_wp2_with fail
    refine hK.out _ _ (SS _ _ _ _ _ _ _ st) (fun hHeld => ?_)
    clear hK K
    change wpAnyH _ _ _ _ _ _ _ (c.put (some 48) v9) _
    obtain ⟨c2, e⟩ : ∃ act, act = c.put (some 48) v9 := ⟨_, rfl⟩
    rw [← e]
    exact rf13_4_9_16 SS K4 K9 K10 K16 K15 K21 KB h _ _ (by kernel_rfl) (by kernel_rfl) v4 v9 v16 c2 _ (by rw [e, HC.out]; simp (disch := decide) only [put_sort]) (pz e z) (pk e t53) (pk e t55) (pk e t59) (pk e t43) (pq e z) st
  · obtain ⟨v10, y, E, st⟩ := K10 _ _ _ _ st
    have X := exec_bs0 (P := Tryd.prog) (a := c) (o := rfk13_o10) rfl E
    rw [if_pos (by rfl), Oper.wp, X]
    show K _ _
    clear X
    refine hK.out _ _ (SS _ _ _ _ _ _ _ st) (fun hHeld => ?_)
    clear hK K
    change wpAnyH _ _ _ _ _ _ _ (c.put (some 49) v10) _
    obtain ⟨c2, e⟩ : ∃ act, act = c.put (some 49) v10 := ⟨_, rfl⟩
    rw [← e]
    exact rf13_4_10_16 SS K4 K9 K10 K16 K15 K21 KB h _ _ (by kernel_rfl) (by kernel_rfl) v4 v10 v16 c2 _ (by rw [e, HC.out]; simp (disch := decide) only [put_sort]) (pz e z) (pk e t47) (pq e z) (pk e t53) (pk e t55) (pk e t59) (pk e t43) st
theorem rf13_4 (L : Array Bool) (n : Nat) (hL : L = #[true, true, true, true, true, true, true, true, true, false, false, true, true, true, true, false, false, true, true, true, true, false, false, false, false]) (hn : n = 8) (v4 : Value) (c : Act) (W : World) (hc : c = (p).put (some 43) v4) (z : c.tmps.size = 145) (t47 : c.tmps.getD 47 undef = dv) (t53 : c.tmps.getD 53 undef = bv0) (t59 : c.tmps.getD 59 undef = sv0) (t43 : c.tmps.getD 43 undef = v4) (st : St W (some v4) none none none none none) :
    wpAnyH Tryd.prog .any rfk13_ops (NoPanic Q) S n L c W := by
  subst hL hn
  have HC := hidMk hc
  clear hc
  refine wpAnyH_ready (rs := [9, 10, 16]) (by kernel_rfl) (by simp) ?_
  refine AllReadyH.cons (o := rfk13_o9) rfl (fun K hK => ?_) (AllReadyH.cons (o := rfk13_o10) rfl (fun K hK => ?_) (AllReadyH.cons (o := rfk13_o16) rfl (fun K hK => ?_) (AllReadyH.nil)))
  · rw [if_pos (by rfl)]
    unfold rfk13_o9 at hK ⊢
    go_simp
    refine (K9 _ _ _ _ st).mono ?_
    rintro e y ⟨v9, rfl, st⟩
    try go_wp2_with fail
    refine hK.out _ _ (SS _ _ _ _ _ _ _ st) (fun hHeld => ?_)
    clear hK K
    change wpAnyH _ _ _ _ _ _ _ (c.put (some 48) v9) _
    obtain ⟨c2, e⟩ : ∃ act, act = c.put (some 48) v9 := ⟨_, rfl⟩
    rw [← e]
    exact rf13_4_9 SS K4 K9 K10 K16 K15 K21 KB h _ _ (by kernel_rfl) (by kernel_rfl) v4 v9 c2 _ (by rw [e, HC.out]) (pz e z) (pk e t53) (pk e t59) (pk e t43) (pq e z) st
  · obtain ⟨v10, y, E, st⟩ := K10 _ _ _ _ st
    have X := exec_bs0 (P := Tryd.prog) (a := c) (o := rfk13_o10) rfl E
    rw [if_pos (by rfl), Oper.wp, X]
    show K _ _
    clear X
    refine hK.out _ _ (SS _ _ _ _ _ _ _ st) (fun hHeld => ?_)
    clear hK K
    change wpAnyH _ _ _ _ _ _ _ (c.put (some 49) v10) _
    obtain ⟨c2, e⟩ : ∃ act, act = c.put (some 49) v10 := ⟨_, rfl⟩
    rw [← e]
    exact rf13_4_10 SS K4 K9 K10 K16 K15 K21 KB h _ _ (by kernel_rfl) (by kernel_rfl) v4 v10 c2 _ (by rw [e, HC.out]) (pz e z) (pk e t47) (pq e z) (pk e t53) (pk e t59) (pk e t43) st
  · obtain ⟨v16, y, E, st⟩ := K16 _ _ _ _ _ st
    have X := exec_bs0 (P := Tryd.prog) (a := c) (o := rfk13_o16) rfl E
    rw [if_pos (by rfl), Oper.wp, X]
    show K _ _
    clear X
    refine hK.out _ _ (SS _ _ _ _ _ _ _ st) (fun hHeld => ?_)
    clear hK K
    change wpAnyH _ _ _ _ _ _ _ (c.put (some 55) v16) _
    obtain ⟨c2, e⟩ : ∃ act, act = c.put (some 55) v16 := ⟨_, rfl⟩
    rw [← e]
    exact rf13_4_16 SS K4 K9 K10 K16 K15 K21 KB h _ _ (by kernel_rfl) (by kernel_rfl) v4 v16 c2 _ (by rw [e, HC.out]) (pz e z) (pk e t47) (pk e t53) (pq e z) (pk e t59) (pk e t43) st
theorem rf13_10_16 (L : Array Bool) (n : Nat) (hL : L = #[true, true, true, true, false, true, true, true, true, false, true, true, true, true, true, false, true, true, true, true, true, false, false, false, false]) (hn : n = 7) (v10 v16 : Value) (c : Act) (W : World) (hc : c = ((p).put (some 49) v10).put (some 55) v16) (z : c.tmps.size = 145) (t42 : c.tmps.getD 42 undef = tv) (t47 : c.tmps.getD 47 undef = dv) (t49 : c.tmps.getD 49 undef = v10) (t53 : c.tmps.getD 53 undef = bv0) (t55 : c.tmps.getD 55 undef = v16) (t59 : c.tmps.getD 59 undef = sv0) (st : St W none none (some v10) none (some v16) none) :
    wpAnyH Tryd.prog .any rfk13_ops (NoPanic Q) S n L c W := by
  subst hL hn
  have HC := hidMk hc
  clear hc
  refine wpAnyH_ready (rs := [4]) (by kernel_rfl) (by simp) ?_
  refine AllReadyH.cons (o := rfk13_o4) rfl (fun K hK => ?_) (AllReadyH.nil)
  · rw [if_pos (by rfl)]
    unfold rfk13_o4 at hK ⊢
    go_simp
    refine (K4 _ _ _ st).mono ?_
    rintro e y ⟨v4, rfl, st⟩
    try go_wp2_with fail
    refine hK.out _ _ (SS _ _ _ _ _ _ _ st) (fun hHeld => ?_)
    clear hK K
    change wpAnyH _ _ _ _ _ _ _ (c.put (some 43) v4) _
    obtain ⟨c2, e⟩ : ∃ act, act = c.put (some 43) v4 := ⟨_, rfl⟩
    rw [← e]
    exact rf13_4_10_16 SS K4 K9 K10 K16 K15 K21 KB h _ _ (by kernel_rfl) (by kernel_rfl) v4 v10 v16 c2 _ (by rw [e, HC.out]; simp (disch := decide) only [put_sort]) (pz e z) (pk e t47) (pk e t49) (pk e t53) (pk e t55) (pk e t59) (pq e z) st
theorem rf13_10 (L : Array Bool) (n : Nat) (hL : L = #[true, true, true, true, false, true, true, true, true, false, true, true, true, true, true, false, false, true, true, true, true, false, false, false, false]) (hn : n = 8) (v10 : Value) (c : Act) (W : World) (hc : c = (p).put (some 49) v10) (z : c.tmps.size = 145) (t42 : c.tmps.getD 42 undef = tv) (t47 : c.tmps.getD 47 undef = dv) (t49 : c.tmps.getD 49 undef = v10) (t53 : c.tmps.getD 53 undef = bv0) (t59 : c.tmps.getD 59 undef = sv0) (st : St W none none (some v10) none none none) :
    wpAnyH Tryd.prog .any rfk13_ops (NoPanic Q) S n L c W := by
  subst hL hn
  have HC := hidMk hc
  clear hc
  refine wpAnyH_ready (rs := [4, 16]) (by kernel_rfl) (by simp) ?_
  refine AllReadyH.cons (o := rfk13_o4) rfl (fun K hK => ?_) (AllReadyH.cons (o := rfk13_o16) rfl (fun K hK => ?_) (AllReadyH.nil))
  · rw [if_pos (by rfl)]
    unfold rfk13_o4 at hK ⊢
    go_simp
    refine (K4 _ _ _ st).mono ?_
    rintro e y ⟨v4, rfl, st⟩
    try go_wp2_with fail
    refine hK.out _ _ (SS _ _ _ _ _ _ _ st) (fun hHeld => ?_)
    clear hK K
    change wpAnyH _ _ _ _ _ _ _ (c.put (some 43) v4) _
    obtain ⟨c2, e⟩ : ∃ act, act = c.put (some 43) v4 := ⟨_, rfl⟩
    rw [← e]
    exact rf13_4_10 SS K4 K9 K10 K16 K15 K21 KB h _ _ (by kernel_rfl) (by kernel_rfl) v4 v10 c2 _ (by rw [e, HC.out]; simp (disch := decide) only [put_sort]) (pz e z) (pk e t47) (pk e t49) (pk e t53) (pk e t59) (pq e z) st
  · obtain ⟨v16, y, E, st⟩ := K16 _ _ _ _ _ st
    have X := exec_bs0 (P := Tryd.prog) (a := c) (o := rfk13_o16) rfl E
    rw [if_pos (by rfl), Oper.wp, X]
    show K _ _
    clear X
    refine hK.out _ _ (SS _ _ _ _ _ _ _ st) (fun hHeld => ?_)
    clear hK K
    change wpAnyH _ _ _ _ _ _ _ (c.put (some 55) v16) _
    obtain ⟨c2, e⟩ : ∃ act, act = c.put (some 55) v16 := ⟨_, rfl⟩
    rw [← e]
    exact rf13_10_16 SS K4 K9 K10 K16 K15 K21 KB h _ _ (by kernel_rfl) (by kernel_rfl) v10 v16 c2 _ (by rw [e, HC.out]) (pz e z) (pk e t42) (pk e t47) (pk e t49) (pk e t53) (pq e z) (pk e t59) st
theorem rf13_16 (L : Array Bool) (n : Nat) (hL : L = #[true, true, true, true, false, true, true, true, true, false, false, true, true, true, true, false, true, true, true, true, true, false, false, false, false]) (hn : n = 8) (v16 : Value) (c : Act) (W : World) (hc : c = (p).put (some 55) v16) (z : c.tmps.size = 145) (t42 : c.tmps.getD 42 undef = tv) (t47 : c.tmps.getD 47 undef = dv) (t53 : c.tmps.getD 53 undef = bv0) (t55 : c.tmps.getD 55 undef = v16) (t59 : c.tmps.getD 59 undef = sv0) (st : St W none none none none (some v16) none) :
    wpAnyH Tryd.prog .any rfk13_ops (NoPanic Q) S n L c W := by
  subst hL hn
  have HC := hidMk hc
  clear hc
  refine wpAnyH_ready (rs := [4, 10]) (by kernel_rfl) (by simp) ?_
  refine AllReadyH.cons (o := rfk13_o4) rfl (fun K hK => ?_) (AllReadyH.cons (o := rfk13_o10) rfl (fun K hK => ?_) (AllReadyH.nil))
  · rw [if_pos (by rfl)]
    unfold rfk13_o4 at hK ⊢
    go_simp
    refine (K4 _ _ _ st).mono ?_
    rintro e y ⟨v4, rfl, st⟩
    try go_wp2_with fail
    refine hK.out _ _ (SS _ _ _ _ _ _ _ st) (fun hHeld => ?_)
    clear hK K
    change wpAnyH _ _ _ _ _ _ _ (c.put (some 43) v4) _
    obtain ⟨c2, e⟩ : ∃ act, act = c.put (some 43) v4 := ⟨_, rfl⟩
    rw [← e]
    exact rf13_4_16 SS K4 K9 K10 K16 K15 K21 KB h _ _ (by kernel_rfl) (by kernel_rfl) v4 v16 c2 _ (by rw [e, HC.out]; simp (disch := decide) only [put_sort]) (pz e z) (pk e t47) (pk e t53) (pk e t55) (pk e t59) (pq e z) st
  · obtain ⟨v10, y, E, st⟩ := K10 _ _ _ _ st
    have X := exec_bs0 (P := Tryd.prog) (a := c) (o := rfk13_o10) rfl E
    rw [if_pos (by rfl), Oper.wp, X]
    show K _ _
    clear X
    refine hK.out _ _ (SS _ _ _ _ _ _ _ st) (fun hHeld => ?_)
    clear hK K
    change wpAnyH _ _ _ _ _ _ _ (c.put (some 49) v10) _
    obtain ⟨c2, e⟩ : ∃ act, act = c.put (some 49) v10 := ⟨_, rfl⟩
    rw [← e]
    exact rf13_10_16 SS K4 K9 K10 K16 K15 K21 KB h _ _ (by kernel_rfl) (by kernel_rfl) v10 v16 c2 _ (by rw [e, HC.out]; simp (disch := decide) only [put_sort]) (pz e z) (pk e t42) (pk e t47) (pq e z) (pk e t53) (pk e t55) (pk e t59) st
theorem rf13_0 (L : Array Bool) (n : Nat) (hL : L = #[true, true, true, true, false, true, true, true, true, false, false, true, true, true, true, false, false, true, true, true, true, false, false, false, false]) (hn : n = 9) (c : Act) (W : World) (hc : c = p) (z : c.tmps.size = 145) (t42 : c.tmps.getD 42 undef = tv) (t47 : c.tmps.getD 47 undef = dv) (t53 : c.tmps.getD 53 undef = bv0) (t59 : c.tmps.getD 59 undef = sv0) (st : St W none none none none none none) :
    wpAnyH Tryd.prog .any rfk13_ops (NoPanic Q) S n L c W := by
  subst hL hn
  have HC := hidMk hc
  clear hc
  refine wpAnyH_ready (rs := [4, 10, 16]) (by kernel_rfl) (by simp) ?_
  refine AllReadyH.cons (o := rfk13_o4) rfl (fun K hK => ?_) (AllReadyH.cons (o := rfk13_o10) rfl (fun K hK => ?_) (AllReadyH.cons (o := rfk13_o16) rfl (fun K hK => ?_) (AllReadyH.nil)))
  · rw [if_pos (by rfl)]
    unfold rfk13_o4 at hK ⊢
    go_simp
    refine (K4 _ _ _ st).mono ?_
    rintro e y ⟨v4, rfl, st⟩
    try go_wp2_with fail
    refine hK.out _ _ (SS _ _ _ _ _ _ _ st) (fun hHeld => ?_)
    clear hK K
    change wpAnyH _ _ _ _ _ _ _ (c.put (some 43) v4) _
    obtain ⟨c2, e⟩ : ∃ act, act = c.put (some 43) v4 := ⟨_, rfl⟩
    rw [← e]
    exact rf13_4 SS K4 K9 K10 K16 K15 K21 KB h _ _ (by kernel_rfl) (by kernel_rfl) v4 c2 _ (by rw [e, HC.out]) (pz e z) (pk e t47) (pk e t53) (pk e t59) (pq e z) st
  · obtain ⟨v10, y, E, st⟩ := K10 _ _ _ _ st
    have X := exec_bs0 (P := Tryd.prog) (a := c) (o := rfk13_o10) rfl E
    rw [if_pos (by rfl), Oper.wp, X]
    show K _ _
    clear X
    refine hK.out _ _ (SS _ _ _ _ _ _ _ st) (fun hHeld => ?_)
    clear hK K
    change wpAnyH _ _ _ _ _ _ _ (c.put (some 49) v10) _
    obtain ⟨c2, e⟩ : ∃ act, act = c.put (some 49) v10 := ⟨_, rfl⟩
    rw [← e]
    exact rf13_10 SS K4 K9 K10 K16 K15 K21 KB h _ _ (by kernel_rfl) (by kernel_rfl) v10 c2 _ (by rw [e, HC.out]) (pz e z) (pk e t42) (pk e t47) (pq e z) (pk e t53) (pk e t59) st
  · obtain ⟨v16, y, E, st⟩ := K16 _ _ _ _ _ st
    have X := exec_bs0 (P := Tryd.prog) (a := c) (o := rfk13_o16) rfl E
    rw [if_pos (by rfl), Oper.wp, X]
    show K _ _
    clear X
    refine hK.out _ _ (SS _ _ _ _ _ _ _ st) (fun hHeld => ?_)
    clear hK K
    change wpAnyH _ _ _ _ _ _ _ (c.put (some 55) v16) _
    obtain ⟨c2, e⟩ : ∃ act, act = c.put (some 55) v16 := ⟨_, rfl⟩
    rw [← e]
    exact rf13_16 SS K4 K9 K10 K16 K15 K21 KB h _ _ (by kernel_rfl) (by kernel_rfl) v16 c2 _ (by rw [e, HC.out]) (pz e z) (pk e t42) (pk e t47) (pk e t53) (pq e z) (pk e t59) st
end
theorem rfk13c (S : World → Prop) (St : World → Option Value → Option Value → Option Value → Option Value → Option Value → Option Value → Prop) (Fin : Value → Value → Value → Value → Value → World → Prop) (x : Nat) (tv dv bv0 sv0 : Value) (a : Act) (w : World) (Q : Exit → Act → World → Prop) (hsz : a.tmps.size = 145)
    (t7 : a.tmps.getD 7 undef = .pointer (some ⟨x, 0, none⟩))
    (SS : ∀ W o4 o9 o10 o15 o16 o21, St W o4 o9 o10 o15 o16 o21 → S W) (st : St w.drew none none none none none none)
    (K4 : ∀ W o10 o16, St W none none o10 none o16 none → Calls Tryd.prog 13 #[tv] W fun e w' => ∃ v, e = .returned v ∧ St w' (some v) none o10 none o16 none)
    (K9 : ∀ W v4 o10 o16, St W (some v4) none o10 none o16 none → Calls Tryd.prog 14 #[dv] W fun e w' => ∃ v, e = .returned v ∧ St w' (some v4) (some v) o10 none o16 none)
    (K10 : ∀ W o4 o9 o16, St W o4 o9 none none o16 none → ∃ v w2, (Instr.buildSlice 30 0 #[]).run Tryd.prog W = .ok v w2 ∧ St w2 o4 o9 (some v) none o16 none)
    (K16 : ∀ W o4 o9 o10 o15, St W o4 o9 o10 o15 none none → ∃ v w2, (Instr.buildSlice 31 0 #[]).run Tryd.prog W = .ok v w2 ∧ St w2 o4 o9 o10 o15 (some v) none)
    (K15 : ∀ W v4 v9 v10 o16, St W (some v4) (some v9) (some v10) none o16 none → ∃ v w2, (Builtin.append_ #[30, 30] 30 #[v10, bv0]).run Tryd.prog W = .ok v w2 ∧ St w2 (some v4) (some v9) (some v10) (some v) o16 none)
    (K21 : ∀ W v4 v9 v10 v15 v16, St W (some v4) (some v9) (some v10) (some v15) (some v16) none → ∃ v w2, (Builtin.append_ #[31, 31] 31 #[v16, sv0]).run Tryd.prog W = .ok v w2 ∧ St w2 (some v4) (some v9) (some v10) (some v15) (some v16) (some v))
    (KB : ∀ W v4 v9 v10 v15 v16 v21, St W (some v4) (some v9) (some v10) (some v15) (some v16) (some v21) → ∃ bv pv w2, (∀ W', (Instr.build 33 #[(0, v4), (1, v9), (2, v15), (3, v21)]).run Tryd.prog W' = .ok bv W') ∧ (Instr.box 33 bv).run Tryd.prog W = .ok pv w2 ∧ S w2 ∧ Fin v4 v9 v15 v21 pv w2)
    (G0 : ∀ W, S W → (Instr.loadAt 26 (.pointer (some ⟨x, 0 + 0, none⟩))).run Tryd.prog W = .ok tv W)
    (G1 : ∀ W, S W → (Instr.loadAt 28 (.pointer (some ⟨x, 0 + 1, none⟩))).run Tryd.prog W = .ok dv W)
    (G2 : ∀ W, S W → (Instr.loadAt 30 (.pointer (some ⟨x, 0 + 2, none⟩))).run Tryd.prog W = .ok bv0 W)
    (G3 : ∀ W, S W → (Instr.loadAt 31 (.pointer (some ⟨x, 0 + 3, none⟩))).run Tryd.prog W = .ok sv0 W)
    (h : ∀ (v4 v9 v10 v15 v16 v21 bv pv : Value) (a' : Act) (w' : World), Fin v4 v9 v15 v21 pv w' → a' = (((((((((((((((((((((((((a).put (some 39) (.pointer (some ⟨x, 0, none⟩))).put (some 40) (.pointer (some ⟨x, 0, none⟩))).put (some 41) (.pointer (some ⟨x, 0 + 0, none⟩))).put (some 42) (tv)).put (some 44) (.pointer (some ⟨x, 0, none⟩))).put (some 45) (.pointer (some ⟨x, 0, none⟩))).put (some 46) (.pointer (some ⟨x, 0 + 1, none⟩))).put (some 47) (dv)).put (some 50) (.pointer (some ⟨x, 0, none⟩))).put (some 51) (.pointer (some ⟨x, 0, none⟩))).put (some 52) (.pointer (some ⟨x, 0 + 2, none⟩))).put (some 53) (bv0)).put (some 56) (.pointer (some ⟨x, 0, none⟩))).put (some 57) (.pointer (some ⟨x, 0, none⟩))).put (some 58) (.pointer (some ⟨x, 0 + 3, none⟩))).put (some 59) (sv0)).put (some 43) v4).put (some 48) v9).put (some 49) v10).put (some 54) v15).put (some 55) v16).put (some 60) v21).put (some 61) bv).put (some 62) pv).put (some 9) pv → Q .normal a' w') :
    (Code.region 13 rfk13_ops true).wp Tryd.prog Q a w := by
  refine wp_region_noPanic ?_
  refine wp_region_held_drew (S := S) (by kernel_rfl) (SS _ _ _ _ _ _ _ st) (fun hHeld => ?_)
  refine tk 0 rfk13_o0 (.pointer (some ⟨x, 0, none⟩)) (by rfl) (fun w1 hw => exec_move rfl t7) hHeld (fun a0 e0 => ?_)
  rw [← e0] at h
  have z0 := pz e0 hsz
  replace t7 := pk e0 t7
  have t39 := pq e0 hsz
  clear e0 hsz
  refine tk 1 rfk13_o1 (.pointer (some ⟨x, 0, none⟩)) (by rfl) (fun w1 hw => exec_nilCheck rfl t39) hHeld (fun a1 e1 => ?_)
  rw [← e1] at h
  have z1 := pz e1 z0
  replace t7 := pk e1 t7
  clear t39
  have t40 := pq e1 z0
  clear e1 z0
  refine tk 2 rfk13_o2 (.pointer (some ⟨x, 0 + 0, none⟩)) (by rfl) (fun w1 hw => exec_fieldAt rfl t40 (fg_33_0 _ _ _)) hHeld (fun a2 e2 => ?_)
  rw [← e2] at h
  have z2 := pz e2 z1
  replace t7 := pk e2 t7
  clear t40
  have t41 := pq e2 z1
  clear e2 z1
  refine tk 3 rfk13_o3 (tv) (by rfl) (fun w1 hw => exec_load rfl t41 (G0 _ hw)) hHeld (fun a3 e3 => ?_)
  rw [← e3] at h
  have z3 := pz e3 z2
  replace t7 := pk e3 t7
  clear t41
  have t42 := pq e3 z2
  clear e3 z2
  refine tk 5 rfk13_o5 (.pointer (some ⟨x, 0, none⟩)) (by rfl) (fun w1 hw => exec_move rfl t7) hHeld (fun a4 e4 => ?_)
  rw [← e4] at h
  have z4 := pz e4 z3
  replace t7 := pk e4 t7
  replace t42 := pk e4 t42
  have t44 := pq e4 z3
  clear e4 z3
  refine tk 6 rfk13_o6 (.pointer (some ⟨x, 0, none⟩)) (by rfl) (fun w1 hw => exec_nilCheck rfl t44) hHeld (fun a5 e5 => ?_)
  rw [← e5] at h
  have z5 := pz e5 z4
  replace t7 := pk e5 t7
  replace t42 := pk e5 t42
  clear t44
  have t45 := pq e5 z4
  clear e5 z4
  refine tk 7 rfk13_o7 (.pointer (some ⟨x, 0 + 1, none⟩)) (by rfl) (fun w1 hw => exec_fieldAt rfl t45 (fg_33_1 _ _ _)) hHeld (fun a6 e6 => ?_)
  rw [← e6] at h
  have z6 := pz e6 z5
  replace t7 := pk e6 t7
  replace t42 := pk e6 t42
  clear t45
  have t46 := pq e6 z5
  clear e6 z5
  refine tk 8 rfk13_o8 (dv) (by rfl) (fun w1 hw => exec_load rfl t46 (G1 _ hw)) hHeld (fun a7 e7 => ?_)
  rw [← e7] at h
  have z7 := pz e7 z6
  replace t7 := pk e7 t7
  replace t42 := pk e7 t42
  clear t46
  have t47 := pq e7 z6
  clear e7 z6
  refine tk 11 rfk13_o11 (.pointer (some ⟨x, 0, none⟩)) (by rfl) (fun w1 hw => exec_move rfl t7) hHeld (fun a8 e8 => ?_)
  rw [← e8] at h
  have z8 := pz e8 z7
  replace t7 := pk e8 t7
  replace t42 := pk e8 t42
  replace t47 := pk e8 t47
  have t50 := pq e8 z7
  clear e8 z7
  refine tk 12 rfk13_o12 (.pointer (some ⟨x, 0, none⟩)) (by rfl) (fun w1 hw => exec_nilCheck rfl t50) hHeld (fun a9 e9 => ?_)
  rw [← e9] at h
  have z9 := pz e9 z8
  replace t7 := pk e9 t7
  replace t42 := pk e9 t42
  replace t47 := pk e9 t47
  clear t50
  have t51 := pq e9 z8
  clear e9 z8
  refine tk 13 rfk13_o13 (.pointer (some ⟨x, 0 + 2, none⟩)) (by rfl) (fun w1 hw => exec_fieldAt rfl t51 (fg_33_2 _ _ _)) hHeld (fun a10 e10 => ?_)
  rw [← e10] at h
  have z10 := pz e10 z9
  replace t7 := pk e10 t7
  replace t42 := pk e10 t42
  replace t47 := pk e10 t47
  clear t51
  have t52 := pq e10 z9
  clear e10 z9
  refine tk 14 rfk13_o14 (bv0) (by rfl) (fun w1 hw => exec_load rfl t52 (G2 _ hw)) hHeld (fun a11 e11 => ?_)
  rw [← e11] at h
  have z11 := pz e11 z10
  replace t7 := pk e11 t7
  replace t42 := pk e11 t42
  replace t47 := pk e11 t47
  clear t52
  have t53 := pq e11 z10
  clear e11 z10
  refine tk 17 rfk13_o17 (.pointer (some ⟨x, 0, none⟩)) (by rfl) (fun w1 hw => exec_move rfl t7) hHeld (fun a12 e12 => ?_)
  rw [← e12] at h
  have z12 := pz e12 z11
  clear t7
  replace t42 := pk e12 t42
  replace t47 := pk e12 t47
  replace t53 := pk e12 t53
  have t56 := pq e12 z11
  clear e12 z11
  refine tk 18 rfk13_o18 (.pointer (some ⟨x, 0, none⟩)) (by rfl) (fun w1 hw => exec_nilCheck rfl t56) hHeld (fun a13 e13 => ?_)
  rw [← e13] at h
  have z13 := pz e13 z12
  replace t42 := pk e13 t42
  replace t47 := pk e13 t47
  replace t53 := pk e13 t53
  clear t56
  have t57 := pq e13 z12
  clear e13 z12
  refine tk 19 rfk13_o19 (.pointer (some ⟨x, 0 + 3, none⟩)) (by rfl) (fun w1 hw => exec_fieldAt rfl t57 (fg_33_3 _ _ _)) hHeld (fun a14 e14 => ?_)
  rw [← e14] at h
  have z14 := pz e14 z13
  replace t42 := pk e14 t42
  replace t47 := pk e14 t47
  replace t53 := pk e14 t53
  clear t57
  have t58 := pq e14 z13
  clear e14 z13
  refine tk 20 rfk13_o20 (sv0) (by rfl) (fun w1 hw => exec_load rfl t58 (G3 _ hw)) hHeld (fun a15 e15 => ?_)
  rw [← e15] at h
  have z15 := pz e15 z14
  replace t42 := pk e15 t42
  replace t47 := pk e15 t47
  replace t53 := pk e15 t53
  clear t58
  have t59 := pq e15 z14
  clear e15 z14
  exact rf13_0 SS K4 K9 K10 K16 K15 K21 KB h _ _ (by kernel_rfl) (by kernel_rfl) a15 _ rfl z15 t42 t47 t53 t59 st
structure St13 (w0 : World) (base : Nat) (p : Pz) (W : World) (o4 o9 o10 o15 o16 o21 : Option Value) : Prop where
  bel : Below w0.heap.size w0 W
  r4 : ∀ v, o4 = some v → ∃ s2 : Rs, v = .pointer (some ⟨s2.r, 0, none⟩) ∧ FkE w0 base p.s p.H s2 W ∧ ∀ u, o9 = some u → ∃ f, u = .pointer (some ⟨f, 0, none⟩) ∧ DkE w0.heap.size p f s2 W
  b0 : ∀ v, o10 = some v → o15 = none → OwnV W w0.heap.size 54 v []
  b1 : ∀ v, o15 = some v → OwnV W w0.heap.size 54 v (p.BL.map bkV)
  s0 : ∀ v, o16 = some v → o21 = none → OwnV W w0.heap.size 3 v []
  s1 : ∀ v, o21 = some v → OwnV W w0.heap.size 3 v (p.SL.map inV)
theorem run_bs0g (T e y : TypeId) (z : Value) (ht : Tryd.prog.underlying T = some (.slice e)) (hi : (Tryd.prog.info? e).map (fun i => (i.zero, i.size, i.bytes)) = some (some z, 1, y)) (w : World) : (Instr.buildSlice T 0 #[]).run Tryd.prog w = .ok (.slice (some ⟨w.heap.size, 0, none⟩) 0 0) (w.alloc (.cells #[] e)) := by
  obtain ⟨ie, hi, hz, hs, hby⟩ := info_parts hi
  simp [Instr.buildSlice, run_underlying ht, sizeOf, typeInfo, zeroValue, hi, hz, hs, newRow, Instr.fill]
  rw [show Array.range 0 = #[] by simp [Array.range], Array.map_empty]
theorem own_nilV (w : World) (N e : Nat) (hN : N ≤ w.heap.size) : OwnV (w.alloc (.cells #[] e)) N e (.slice (some ⟨w.heap.size, 0, none⟩) 0 0) [] :=
  ⟨by simp, Or.inr ⟨w.heap.size, 0, #[], rfl, hN, heap_alloc_new _ _, by simp, by unfold maxLen; omega, by simp, by simp⟩⟩
section
variable {K : Fm} {w00 w0 : World} {B1 B2 x ro d m : Nat} {p : Pz} {W W' : World} {o4 o9 o10 o15 o16 o21 : Option Value}
theorem St13.below (h : St13 w0 B1 p W o4 o9 o10 o15 o16 o21) (b : Below W.heap.size W W') : St13 w0 B1 p W' o4 o9 o10 o15 o16 o21 := by
  refine ⟨h.bel.trans (b.mono h.bel.size), fun v hv => ?_, fun v hv h0 => (h.b0 v hv h0).below b, fun v hv => (h.b1 v hv).below b, fun v hv h0 => (h.s0 v hv h0).below b, fun v hv => (h.s1 v hv).below b⟩
  obtain ⟨s2, e, hf, hd⟩ := h.r4 v hv
  exact ⟨s2, e, hf.below b, fun u hu => by
    obtain ⟨f, e2, hd⟩ := hd u hu
    exact ⟨f, e2, hd.below b⟩⟩
theorem k13_4 (hx : PY K w00 B1 B2 x ro d m p w0) (h : St13 w0 B1 p W none none o10 none o16 none) :
    Calls Tryd.prog 13 #[.pointer (some ⟨ro, 0, none⟩)] W fun e w' => ∃ v, e = .returned v ∧ St13 w0 B1 p w' (some v) none o10 none o16 none := by
  have py := hx.below h.bel
  have cc := fork_any py.pm.ra py.h1
  rw [py.pm.r] at cc
  refine cc.mono ?_
  rintro e w' ⟨s2, rfl, hf⟩
  have h2 := h.below hf.bel
  exact ⟨_, rfl, h2.bel, fun v hv => by cases hv; exact ⟨s2, rfl, hf.from h.bel, fun u hu => by cases hu⟩, h2.b0, h2.b1, h2.s0, h2.s1⟩
theorem k13_9 (hx : PY K w00 B1 B2 x ro d m p w0) (hm : m + 1 ≤ 2200000000000) {v4 : Value} (h : St13 w0 B1 p W (some v4) none o10 none o16 none) :
    Calls Tryd.prog 14 #[.pointer (some ⟨d, 0, none⟩)] W fun e w' => ∃ v, e = .returned v ∧ St13 w0 B1 p w' (some v4) (some v) o10 none o16 none := by
  have py := hx.below h.bel
  obtain ⟨s2, rfl, hf, _⟩ := h.r4 _ rfl
  refine (rf_fork py.pm.rf (by have := py.xl; omega) (by have := py.md; omega) (fun q hq => by have := py.dl hq; omega)).mono ?_
  rintro e w' ⟨f, rfl, X', v', pv', D', rf, kX, kD, b⟩
  rw [List.take_length] at kD
  have h2 := h.below b
  exact ⟨_, rfl, h2.bel, fun v hv => by
    cases hv
    exact ⟨s2, rfl, hf.below b, fun u hu => by
      cases hu
      exact ⟨f, rfl, X', v', pv', D', rf.base h.bel.size, kX, kD, fun j hj ha => by
        have h1 := doc_ge rf hj
        have h2 := hf.at'.mem.allLt ha
        omega⟩⟩, h2.b0, h2.b1, h2.s0, h2.s1⟩
theorem k13_10 (h : St13 w0 B1 p W o4 o9 none none o16 none) : ∃ v w2, (Instr.buildSlice 30 0 #[]).run Tryd.prog W = .ok v w2 ∧ St13 w0 B1 p w2 o4 o9 (some v) none o16 none := by
  have h2 := h.below ((Below.refl W.heap.size W).alloc (Nat.le_refl _) (.cells #[] 54))
  exact ⟨_, _, run_bs0g 30 54 8 _ Tryd.underlying30 infoBk W, ⟨h2.bel, h2.r4, fun v hv _ => by cases hv; exact own_nilV W _ _ h.bel.size, h2.b1, h2.s0, h2.s1⟩⟩
theorem k13_16 (h : St13 w0 B1 p W o4 o9 o10 o15 none none) : ∃ v w2, (Instr.buildSlice 31 0 #[]).run Tryd.prog W = .ok v w2 ∧ St13 w0 B1 p w2 o4 o9 o10 o15 (some v) none := by
  have h2 := h.below ((Below.refl W.heap.size W).alloc (Nat.le_refl _) (.cells #[] 3))
  exact ⟨_, _, run_bs0g 31 3 8 _ Tryd.underlying31 infoIn W, ⟨h2.bel, h2.r4, h2.b0, h2.b1, fun v hv _ => by cases hv; exact own_nilV W _ _ h.bel.size, h2.s1⟩⟩
theorem St13.r4keep (h : St13 w0 B1 p W o4 o9 o10 o15 o16 o21) {O : Nat → Prop} (t : Tch O W W') (hO : ∀ j, O j → w0.heap.size ≤ j ∧ lsB W j) : ∀ v, o4 = some v → ∃ s2 : Rs, v = .pointer (some ⟨s2.r, 0, none⟩) ∧ FkE w0 B1 p.s p.H s2 W' ∧ ∀ u, o9 = some u → ∃ f, u = .pointer (some ⟨f, 0, none⟩) ∧ DkE w0.heap.size p f s2 W' := fun v hv => by
  obtain ⟨s2, e, hf, hd⟩ := h.r4 v hv
  exact ⟨s2, e, hf.keep t hO, fun u hu => by
    obtain ⟨f, e2, hd⟩ := hd u hu
    exact ⟨f, e2, hd.keep t (fun j hj => (hO j hj).2)⟩⟩
theorem own_apart {N M : Nat} {e e' : TypeId} {v u : Value} {X Y : List Value} (h : OwnV W N e v X) (h' : OwnV W M e' u Y) (hne : e ≠ e') {j : Nat} (hj : v.ownBlock = some j) : u.ownBlock ≠ some j := fun q => by
  obtain ⟨_, c, hc⟩ := h.ge j hj
  obtain ⟨_, c', hc'⟩ := h'.ge j q
  exact hne (two_types hc hc')
theorem k13_15 (hx : PY K w00 B1 B2 x ro d m p w0) (hm : m + 1 ≤ 2200000000000) {v4 v9 v10 : Value} (h : St13 w0 B1 p W (some v4) (some v9) (some v10) none o16 none) :
    ∃ v w2, (Builtin.append_ #[30, 30] 30 #[v10, p.bv]).run Tryd.prog W = .ok v w2 ∧ St13 w0 B1 p w2 (some v4) (some v9) (some v10) (some v) o16 none := by
  have py := hx.below h.bel
  obtain ⟨a, c, e, _, hv, _⟩ := py.pm.backs.open
  have own := h.b0 v10 rfl rfl
  obtain ⟨v, w2, e2, own2, g2, o2⟩ := run_appV 30 54 8 _ Tryd.underlying30 infoBk (Or.inl rfl) rfl W w0.heap.size 30 v10 [] a (p.BL.map bkV) c own hv (by intro u hu; obtain ⟨b, _, rfl⟩ := List.mem_map.1 hu; rfl) (by have := py.mb; simp; omega) h.bel.size
  rw [List.nil_append] at own2
  rw [← e] at e2
  have t : Tch (fun j => v10.ownBlock = some j) W w2 := ⟨g2.os, g2.tape, g2.output, g2.size, fun j hj hO => g2.block j hj (fun q => hO q.symm)⟩
  have ge : ∀ j, v10.ownBlock = some j → w0.heap.size ≤ j ∧ lsB W j := fun j hj => by
    obtain ⟨h1, cu, h2⟩ := own.ge j hj
    exact ⟨h1, cu, _, _, h2, .inl rfl⟩
  refine ⟨v, w2, e2, ⟨h.bel.trans (t.below h.bel.size (fun j hj => (ge j hj).1)), h.r4keep t ge, fun v hv h0 => (by cases h0), fun v' hv' => (by cases hv'; exact own2), fun u hu h0 => ?_, fun u hu => (by cases hu)⟩⟩
  have hs := h.s0 u hu rfl
  exact hs.keep fun k hk => t.block k (by obtain ⟨_, c, q⟩ := hs.ge k hk; exact (Array.getElem?_eq_some_iff.1 q).1) (fun q => own_apart own hs (by decide) q hk)
theorem k13_21 (hx : PY K w00 B1 B2 x ro d m p w0) (hm : m + 1 ≤ 2200000000000) {v4 v9 v10 v15 v16 : Value} (h : St13 w0 B1 p W (some v4) (some v9) (some v10) (some v15) (some v16) none) :
    ∃ v w2, (Builtin.append_ #[31, 31] 31 #[v16, p.sv]).run Tryd.prog W = .ok v w2 ∧ St13 w0 B1 p w2 (some v4) (some v9) (some v10) (some v15) (some v16) (some v) := by
  have py := hx.below h.bel
  obtain ⟨a, c, e, _, hv, _⟩ := py.pm.steps.open
  have own := h.s0 v16 rfl rfl
  obtain ⟨v, w2, e2, own2, g2, o2⟩ := run_appV 31 3 8 _ Tryd.underlying31 infoIn (Or.inl rfl) rfl W w0.heap.size 31 v16 [] a (p.SL.map inV) c own hv (by intro u hu; obtain ⟨b, _, rfl⟩ := List.mem_map.1 hu; rfl) (by have := py.mb; have := py.ln.len; simp; omega) h.bel.size
  rw [List.nil_append] at own2
  rw [← e] at e2
  have t : Tch (fun j => v16.ownBlock = some j) W w2 := ⟨g2.os, g2.tape, g2.output, g2.size, fun j hj hO => g2.block j hj (fun q => hO q.symm)⟩
  have ge : ∀ j, v16.ownBlock = some j → w0.heap.size ≤ j ∧ lsB W j := fun j hj => by
    obtain ⟨h1, cu, h2⟩ := own.ge j hj
    exact ⟨h1, cu, _, _, h2, .inr rfl⟩
  refine ⟨v, w2, e2, ⟨h.bel.trans (t.below h.bel.size (fun j hj => (ge j hj).1)), h.r4keep t ge, fun v hv h0 => (by cases h0), fun u hu => ?_, fun u hu h0 => (by cases h0), fun v' hv' => (by cases hv'; exact own2)⟩⟩
  have hs := h.b1 u hu
  exact hs.keep fun k hk => t.block k (by obtain ⟨_, c, q⟩ := hs.ge k hk; exact (Array.getElem?_eq_some_iff.1 q).1) (fun q => own_apart hs own (by decide) hk q)
theorem build_done4 (a b : Option Addr) (c e : Option Addr) (n1 c1 n2 c2 : Nat) (w : World) : (Instr.build 33 #[(0, .pointer a), (1, .pointer b), (2, .slice c n1 c1), (3, .slice e n2 c2)]).run Tryd.prog w = .ok (.agg #[.pointer a, .pointer b, .slice c n1 c1, .slice e n2 c2]) w := by go_simp
theorem box_done4 (a b c e : Value) (w : World) : (Instr.box 33 (.agg #[a, b, c, e])).run Tryd.prog w = .ok (.pointer (some ⟨w.heap.size, 0, none⟩)) (w.alloc (.cells #[a, b, c, e] 33)) := by go_simp
def Forked (w00 : World) (c : Pc) (m : Nat) (pv : Value) (w2 : World) : Prop := ∃ c' p p', pv = .pointer (some ⟨c'.x, 0, none⟩) ∧ c'.ps = c.ps ∧ Two w00 c m p c' m p' w2
theorem k13_B {c : Pc} (kc : K.ps = c.ps) (hx : PY K w00 c.B1 c.B2 c.x c.ro c.d m p w0) {v4 v9 v10 v15 v16 v21 : Value} (h : St13 w0 c.B1 p W (some v4) (some v9) (some v10) (some v15) (some v16) (some v21)) :
    ∃ bv pv w2, (∀ W', (Instr.build 33 #[(0, v4), (1, v9), (2, v15), (3, v21)]).run Tryd.prog W' = .ok bv W') ∧ (Instr.box 33 bv).run Tryd.prog W = .ok pv w2 ∧ Below w0.heap.size w0 w2 ∧ Forked w00 c m pv w2 := by
  obtain ⟨s2, rfl, hf, hd⟩ := h.r4 v4 rfl
  obtain ⟨f, rfl, hd2⟩ := hd v9 rfl
  have hb := h.b1 v15 rfl
  have hs := h.s1 v21 rfl
  obtain ⟨a1, c1, e1, _⟩ := hb.open
  obtain ⟨a2, c2, e2, _⟩ := hs.open
  have b2 : Below W.heap.size W (W.alloc (.cells #[.pointer (some ⟨s2.r, 0, none⟩), .pointer (some ⟨f, 0, none⟩), v15, v21] 33)) := (Below.refl _ _).alloc (Nat.le_refl _) _
  have hc := heap_alloc_new W (.cells #[.pointer (some ⟨s2.r, 0, none⟩), .pointer (some ⟨f, 0, none⟩), v15, v21] 33)
  refine ⟨.agg #[.pointer (some ⟨s2.r, 0, none⟩), .pointer (some ⟨f, 0, none⟩), v15, v21], _, _, fun W' => by rw [e1, e2]; exact build_done4 _ _ _ _ _ _ _ _ W', box_done4 _ _ _ _ W, ?_⟩
  generalize W.alloc (.cells #[.pointer (some ⟨s2.r, 0, none⟩), .pointer (some ⟨f, 0, none⟩), v15, v21] 33) = w2 at *
  obtain ⟨p', hp⟩ := two_start kc hx (hf.below b2) (hd2.below b2) (hb.below b2) (hs.below b2) hc h.bel.size
  exact ⟨h.bel.trans (b2.mono h.bel.size), ⟨c.B1, w0.heap.size, W.heap.size, s2.r, f, c.ps⟩, p, p', rfl, rfl, hp⟩
end
def OneP (w0 : World) (B1 B2 x ro d : Nat) (ps : List PlK) (m : Nat) (W : World) : Prop := ∃ K : Fm, K.ps = ps ∧ ∃ p, PY K w0 B1 B2 x ro d m p W
theorem OneP.step {w0 W : World} {B1 B2 x ro d m : Nat} {pa : Option Addr} {pc : Nat} {Ps : List PlK} {a : Option Addr} {L : List OpR} (h : OneP w0 B1 B2 x ro d (psF Ps) m W) (hm : m + 1 ≤ 2200000000000) (li : PlI w0 pa Ps a L) {q : OpR} {I : List IdK} (ho : OpS w0 q I) :
    Calls Tryd.prog 11 #[.pointer (some ⟨x, 0, none⟩), q.a, .slice pa Ps.length pc] W fun e w' => e = .returned (.bool true) ∧ OneP w0 B1 B2 x ro d (psF Ps) (m + 1) w' := by
  obtain ⟨K, kc, p, py⟩ := h
  refine (dstep_any py hm li.hP li.okP li.hPn (fun z => by rw [kc]; exact atP_psF Ps z) ho).mono ?_
  rintro e w' ⟨rfl, p2, py2⟩
  exact ⟨rfl, K, kc, p2, py2⟩
def TwoP (w0 : World) (c c' : Pc) (m : Nat) (W : World) : Prop := ∃ p p', Two w0 c m p c' m p' W
def TwoH (w0 : World) (c c' : Pc) (m : Nat) (W : World) : Prop := ∃ p p', Two w0 c (m + 1) p c' m p' W
section
variable {w0 W : World} {c c' : Pc} {m : Nat} {pa : Option Addr} {pc : Nat} {Ps : List PlK} {a : Option Addr} {L : List OpR}
theorem TwoP.half (h : TwoP w0 c c' m W) : TwoH w0 c c' m W := by
  obtain ⟨p, p', t⟩ := h
  exact ⟨p, p', t.mono (Nat.le_succ _) (Nat.le_refl _)⟩
theorem TwoH.full (h : TwoH w0 c c' m W) : TwoP w0 c c' (m + 1) W := by
  obtain ⟨p, p', t⟩ := h
  exact ⟨p, p', t.mono (Nat.le_refl _) (Nat.le_succ _)⟩
theorem TwoP.stepA (h : TwoP w0 c c' m W) (hm : m + 1 ≤ 2200000000000) (li : PlI w0 pa Ps a L) (hK : c.ps = psF Ps) {q : OpR} {I : List IdK} (ho : OpS w0 q I) :
    Calls Tryd.prog 11 #[.pointer (some ⟨c.x, 0, none⟩), q.a, .slice pa Ps.length pc] W fun e w' => e = .returned (.bool true) ∧ TwoH w0 c c' m w' := by
  obtain ⟨p, p', t⟩ := h
  refine (t.stepA hm li hK ho).mono ?_
  rintro e w' ⟨rfl, p2, t2⟩
  exact ⟨rfl, p2, p', t2⟩
theorem TwoH.stepB (h : TwoH w0 c c' m W) (hm : m + 1 ≤ 2200000000000) (li : PlI w0 pa Ps a L) (hK : c'.ps = psF Ps) {q : OpR} {I : List IdK} (ho : OpS w0 q I) :
    Calls Tryd.prog 11 #[.pointer (some ⟨c'.x, 0, none⟩), q.a, .slice pa Ps.length pc] W fun e w' => e = .returned (.bool true) ∧ TwoP w0 c c' (m + 1) w' := by
  obtain ⟨p, p', t⟩ := h
  refine (t.stepB hm li hK ho).mono ?_
  rintro e w' ⟨rfl, p2, t2⟩
  exact ⟨rfl, p, p2, t2⟩
theorem TwoP.alikeA (h : TwoP w0 c c' m W) (hm : m ≤ 2200000000000) (li : PlI w0 pa Ps a L) :
    Calls Tryd.prog 12 #[.pointer (some ⟨c.ro, 0, none⟩), .pointer (some ⟨c.d, 0, none⟩), .slice pa Ps.length pc] W fun e w' => e = .returned (.bool true) ∧ TwoP w0 c c' m w' := by
  obtain ⟨p, p', t⟩ := h
  refine (t.alikeA hm li).mono ?_
  rintro e w' ⟨rfl, t2⟩
  exact ⟨rfl, p, p', t2⟩
theorem TwoP.alikeB (h : TwoP w0 c c' m W) (hm : m ≤ 2200000000000) (li : PlI w0 pa Ps a L) :
    Calls Tryd.prog 12 #[.pointer (some ⟨c'.ro, 0, none⟩), .pointer (some ⟨c'.d, 0, none⟩), .slice pa Ps.length pc] W fun e w' => e = .returned (.bool true) ∧ TwoP w0 c c' m w' := by
  obtain ⟨p, p', t⟩ := h
  refine (t.alikeB hm li).mono ?_
  rintro e w' ⟨rfl, t2⟩
  exact ⟨rfl, p, p', t2⟩
theorem TwoP.below {W' : World} (h : TwoP w0 c c' m W) (b : Below W.heap.size W W') : TwoP w0 c c' m W' := by
  obtain ⟨p, p', t⟩ := h
  exact ⟨p, p', t.below b⟩
theorem TwoP.bel (h : TwoP w0 c c' m W) : Below w0.heap.size w0 W := by
  obtain ⟨p, p', t⟩ := h
  exact t.bel
theorem TwoH.bel (h : TwoH w0 c c' m W) : Below w0.heap.size w0 W := by
  obtain ⟨p, p', t⟩ := h
  exact t.bel
theorem TwoP.ld (h : TwoP w0 c c' m W) : (Instr.loadAt 26 (.pointer (some ⟨c.x, 0 + 0, none⟩))).run Tryd.prog W = .ok (.pointer (some ⟨c.ro, 0, none⟩)) W ∧ (Instr.loadAt 28 (.pointer (some ⟨c.x, 0 + 1, none⟩))).run Tryd.prog W = .ok (.pointer (some ⟨c.d, 0, none⟩)) W ∧ (Instr.loadAt 26 (.pointer (some ⟨c'.x, 0 + 0, none⟩))).run Tryd.prog W = .ok (.pointer (some ⟨c'.ro, 0, none⟩)) W ∧ (Instr.loadAt 28 (.pointer (some ⟨c'.x, 0 + 1, none⟩))).run Tryd.prog W = .ok (.pointer (some ⟨c'.d, 0, none⟩)) W := by
  obtain ⟨p, p', t⟩ := h
  exact ⟨t.ldrA, t.lddA, t.symm.ldrA, t.symm.lddA⟩
end
def foV (a b c d : Value) : Value := .agg #[a, b, c, d]
theorem box_fo (w : World) (a b c d : Value) : ∃ w1, (Instr.box 49 (foV a b c d)).run Tryd.prog w = .ok (.pointer (some ⟨w.heap.size, 0, none⟩)) w1 ∧ w1.heap[w.heap.size]? = some (.cells #[a, b, c, d] 49 (0, 0)) ∧ Below w.heap.size w w1 := ⟨_, by unfold foV; rw [run_box]; rfl, heap_alloc_new _ _, (Below.refl _ _).alloc (Nat.le_refl _) _⟩
set_option maxHeartbeats 16000000 in
theorem fork_all (pa : Option Addr) (pc : Nat) (Ps : List PlK) (la : Option Addr) (lc : Nat) (L : List OpR) (aa : Option Addr) (ac : Nat) (A : List OpR) (ba : Option Addr) (bc : Nat) (B : List OpR) (w : World) (li : PlI w pa Ps la L) (li2 : PlI w pa Ps aa A) (li3 : PlI w pa Ps ba B) (hps : Ps.length ≤ 1499999999998) :
    Calls Tryd.prog 5 #[foV (.slice pa Ps.length pc) (.slice la L.length lc) (.slice aa A.length ac) (.slice ba B.length bc)] w fun e w' => e = .returned (.bool true) ∧ Below w.heap.size w w' := by
  have LI := hidMk li
  have LA := hidMk li2
  have LB := hidMk li3
  obtain ⟨n, hnn⟩ : ∃ n, L.length = n := ⟨_, rfl⟩
  obtain ⟨na, hna⟩ : ∃ n, A.length = n := ⟨_, rfl⟩
  obtain ⟨nb, hnb⟩ : ∃ n, B.length = n := ⟨_, rfl⟩
  obtain ⟨pn, hpn⟩ : ∃ n, Ps.length = n := ⟨_, rfl⟩
  have HN := hidMk (And.intro hnn (And.intro hpn (And.intro hna hnb)))
  have hn := li.hLn
  have hn2 := li2.hLn
  have hn3 := li3.hLn
  rw [hnn] at hn ⊢
  rw [hna] at hn2 ⊢
  rw [hnb] at hn3 ⊢
  rw [hpn]
  have KN : Hid ((psF Ps).length ≤ 1499999999999) := by show (zPl :: Ps).length ≤ _; rw [List.length_cons]; omega
  obtain ⟨wb0, EB, eb, bb⟩ := box_fo w (.slice pa pn pc) (.slice la n lc) (.slice aa na ac) (.slice ba nb bc)
  have HEB := hidMk EB
  have HNB := hidMk eb
  have HBB := hidMk bb
  obtain ⟨ib, hib⟩ : ∃ b, w.heap.size = b := ⟨_, rfl⟩
  rw [hib] at HEB HNB
  clear li li2 li3 hnn hpn hna hnb EB eb bb hib hps
  have HA := hidMk (live_any wb0)
  have HNEW := hidMk newR_any
  have HRN := hidMk rf_new
  go_enter Tryd.func5, Tryd.ntmps5
  go_upto_region 3 with (first
    | (refine wpList_run rfl (exec_boxE (t := 49) (v := foV (.slice pa pn pc) (.slice la n lc) (.slice aa na ac) (.slice ba nb bc)) (u := .pointer (some ⟨ib, 0, none⟩)) (w2 := wb0) rfl rfl HEB.out) ?_)
    | (go_at_call 8; refine HA.out.mono ?_; rintro e w1 ⟨rfl, b1⟩; clear HA)
    | fail)
  have nb1 := (b1.block _ (Array.getElem?_eq_some_iff.1 HNB.out).1).trans HNB.out
  have c0 : w1.cell? ⟨ib, 0, none⟩ = some (.slice pa pn pc) := (cell_of_row w1 ib 0 _ _ _ nb1).trans rfl
  have c1 : w1.cell? ⟨ib, 1, none⟩ = some (.slice la n lc) := (cell_of_row w1 ib 1 _ _ _ nb1).trans rfl
  have c2 : w1.cell? ⟨ib, 2, none⟩ = some (.slice aa na ac) := (cell_of_row w1 ib 2 _ _ _ nb1).trans rfl
  have c3 : w1.cell? ⟨ib, 3, none⟩ = some (.slice ba nb bc) := (cell_of_row w1 ib 3 _ _ _ nb1).trans rfl
  have BW : Hid (Below w.heap.size w w1) := HBB.out.trans (b1.mono HBB.out.size)
  clear b1 nb1 HEB HNB HBB
  go_wp2_with (first
    | (go_at_call 9; refine (HNEW.out _).mono ?_; rintro e w2 ⟨so, rfl, ra, rl, rp, b2⟩)
    | (go_at_call 10; refine (HRN.out _).mono ?_; rintro e w3 ⟨d, rfl, rf, b3⟩)
    | fail)
  clear c0 c1 c2 c3
  have hj0 : Hid (OneP w w1.heap.size w2.heap.size w3.heap.size so.r d (psF Ps) 0 _) := ⟨_, rfl, _, py_start BW.out ra rl b2 rf b3 KN.out⟩
  clear ra rl rp BW b2 rf b3 HNEW HRN KN
  generalize w3.alloc (.cells #[.pointer (some ⟨so.r, 0, none⟩), .pointer (some ⟨d, 0, none⟩), .slice none 0 0, .slice none 0 0] 33) = w4 at *
  generalize so.r = ro at *
  generalize w1.heap.size = B1 at *
  generalize w2.heap.size = B2 at *
  generalize w3.heap.size = x at *
  go_loopw [8] (fun v8 wr => ∃ i : Nat, v8 = .int .i64 (i : Int) ∧ i ≤ n ∧ Hid (OneP w B1 B2 x ro d (psF Ps) i wr)) (fun v8 wr => n - (match v8 with | .int _ i => i.toNat | _ => 0))
  case atStart => exact ⟨0, rfl, Nat.zero_le _, hj0⟩
  case round =>
    clear hj0
    obtain ⟨i, rfl, hin, HI⟩ := hrel
    by_cases hi : i < n
    · obtain ⟨q, I, g, o, ho, rfl, hld⟩ := LI.out.at' (i := i) (by rw [HN.out.1]; exact hi)
      have HLD : Hid ((Instr.loadAt 45 (.pointer (some ⟨g, o + 42 * i, none⟩))).run Tryd.prog wr = .ok q.a wr) := by
        obtain ⟨K, kc, p, py⟩ := HI.out
        exact hld wr py.bel
      have h63 : n ≤ 9223372036854775807 := by omega
      have CS : Hid (Calls Tryd.prog 11 #[.pointer (some ⟨x, 0, none⟩), q.a, .slice pa pn pc] wr fun e w1 => e = .returned (.bool true) ∧ OneP w B1 B2 x ro d (psF Ps) (i + 1) w1) := by
        rw [← HN.out.2.1]
        exact HI.out.step (by omega) LI.out ho
      clear HI hld ho
      go_upto_region 11 with fail
      refine fok11 (x := x) (g := g) (o := o) (n := n) (c := lc) (i := i) (pn := pn) (pc := pc) (pa := pa) (q := q) (OneP w B1 B2 x ro d (psF Ps) (i + 1)) _ wr _ rfl rfl rfl rfl rfl hi h63 (fun W e => by rw [e]; exact HLD.out) CS.out ?_
      intro a' w5 hf ha
      subst ha
      simp only [Act.put, List.setIfInBounds_toArray, List.set_cons_zero, List.set_cons_succ]
      have K5 := hidMk hf
      clear hf CS HLD
      go_wp2
      rw [show ((i : Int) + 1) = ((i + 1 : Nat) : Int) by omega]
      refine ⟨⟨i + 1, rfl, hi, K5.out⟩, ?_⟩
      show n - ((i + 1 : Nat) : Int).toNat < n - (i : Int).toNat
      omega
    · obtain rfl : i = n := by omega
      clear hin hi
      obtain ⟨K, kc, p, py0⟩ := HI.out
      have bd : Below wr.heap.size wr wr.drew := (Below.refl _ _).drew
      have PY0 := hidMk (And.intro kc (py0.below bd))
      obtain ⟨bva, bvc, ebv, _⟩ := py0.pm.backs.open
      obtain ⟨sva, svc, esv, _⟩ := py0.pm.steps.open
      have HBV := hidMk (And.intro ebv esv)
      clear HI kc py0 bd ebv esv
      have hm : i + 1 ≤ 2200000000000 := by omega
      go_upto_region 13 with fail
      refine rfk13c (fun W => Below wr.drew.heap.size wr.drew W) (St13 wr.drew B1 p) (fun _ _ _ _ pv W => Forked w ⟨B1, B2, x, ro, d, psF Ps⟩ i pv W) x (.pointer (some ⟨ro, 0, none⟩)) (.pointer (some ⟨d, 0, none⟩)) p.bv p.sv _ wr _ rfl rfl
        (fun W _ _ _ _ _ _ h => h.bel) ⟨Below.refl _ _, fun v hv => (by cases hv), fun v hv => (by cases hv), fun v hv => (by cases hv), fun v hv => (by cases hv), fun v hv => (by cases hv)⟩
        (fun W o10 o16 h => k13_4 PY0.out.2 h) (fun W v4 o10 o16 h => k13_9 PY0.out.2 hm h) (fun W o4 o9 o16 h => k13_10 h) (fun W o4 o9 o10 o15 h => k13_16 h) (fun W v4 v9 v10 o16 h => k13_15 PY0.out.2 hm h) (fun W v4 v9 v10 v15 v16 h => k13_21 PY0.out.2 hm h) (fun W v4 v9 v10 v15 v16 v21 h => k13_B (c := ⟨B1, B2, x, ro, d, psF Ps⟩) PY0.out.1 PY0.out.2 h)
        (fun W b => (PY0.out.2.below b).pm.ldr) (fun W b => (PY0.out.2.below b).pm.ldd) (fun W b => by have := ((PY0.out.2.below b).pm.ldb HBV.out.1).2; rw [← HBV.out.1] at this; exact this) (fun W b => by have := ((PY0.out.2.below b).pm.lds HBV.out.2).2; rw [← HBV.out.2] at this; exact this) ?_
      intro v4 v9 v10 v15 v16 v21 bv pv a' w5 hf ha
      obtain ⟨c', p1, p2, rfl, kps, t1⟩ := hf
      subst ha
      simp only [Act.put, List.setIfInBounds_toArray, List.set_cons_zero, List.set_cons_succ]
      clear PY0 HBV
      obtain ⟨c, hc⟩ : ∃ c : Pc, (⟨B1, B2, x, ro, d, psF Ps⟩ : Pc) = c := ⟨_, rfl⟩
      have hx : x = c.x := by rw [← hc]
      have KPS : Hid (c.ps = psF Ps ∧ c'.ps = psF Ps) := by rw [← hc]; exact ⟨rfl, kps⟩
      have T1 : Hid (TwoP w c c' i w5.drew) := by rw [← hc]; exact TwoP.below ⟨p1, p2, t1⟩ (Below.refl _ _).drew
      clear kps t1 hc
      subst hx
      have CA : Hid (Calls Tryd.prog 12 #[.pointer (some ⟨c'.ro, 0, none⟩), .pointer (some ⟨c'.d, 0, none⟩), .slice pa pn pc] w5.drew fun e w2 => e = .returned (.bool true) ∧ TwoP w c c' i w2) := by
        rw [← HN.out.2.1]
        exact T1.out.alikeB (by omega) LI.out
      go_upto_region 14 with fail
      refine fok14 (y := c'.x) (rb := c'.ro) (d := c'.d) (pn := pn) (pc := pc) (pa := pa) (TwoP w c c' i) _ w5 _ rfl rfl rfl T1.out (fun W h => h.ld.2.2.1) (fun W h => h.ld.2.2.2) CA.out ?_
      intro a' w6 hf ha
      subst ha
      simp only [Act.put, List.setIfInBounds_toArray, List.set_cons_zero, List.set_cons_succ]
      have hj1 : Hid (TwoP w c c' (i + 0) w6) := hf
      clear hf CA T1
      obtain ⟨mx, hmx⟩ : ∃ m, max na nb = m := ⟨_, rfl⟩
      have m1 : na ≤ mx := by omega
      have m2 : nb ≤ mx := by omega
      have MX := hidMk hmx
      have hmb : mx ≤ 1034834473202 := by omega
      clear hmx
      go_wp2
      go_loopw [10] (fun v10 wx => ∃ k : Nat, v10 = .int .i64 (k : Int) ∧ k ≤ mx ∧ Hid (TwoP w c c' (i + k) wx)) (fun v10 wx => mx - (match v10 with | .int _ i => i.toNat | _ => 0))
      case atStart => exact ⟨0, rfl, Nat.zero_le _, hj1⟩
      case round =>
        clear hj1
        obtain ⟨k, rfl, hkm, HI⟩ := hrel
        have h63 : na ≤ 9223372036854775807 := by omega
        have h64 : nb ≤ 9223372036854775807 := by omega
        by_cases ha1 : k < na
        · obtain ⟨q, I, g, o, ho, rfl, hld⟩ := LA.out.at' (i := k) (by rw [HN.out.2.2.1]; exact ha1)
          have HLD : Hid ((Instr.loadAt 45 (.pointer (some ⟨g, o + 42 * k, none⟩))).run Tryd.prog wr = .ok q.a wr) := hld wr HI.out.bel
          have CS : Hid (Calls Tryd.prog 11 #[.pointer (some ⟨c.x, 0, none⟩), q.a, .slice pa pn pc] wr fun e w1 => e = .returned (.bool true) ∧ TwoH w c c' (i + k) w1) := by
            rw [← HN.out.2.1]
            exact HI.out.stepA (by omega) LA.out KPS.out.1 ho
          clear HI hld ho
          go_upto_region 17 with fail
          refine fok17t (n := na) (c := ac) (i := k) (la := some ⟨g, o, none⟩) _ wr _ rfl rfl rfl ha1 ?_
          intro a' wq hw' ha
          obtain rfl : wr = wq := hw'.symm
          subst ha
          simp only [Act.put, List.setIfInBounds_toArray, List.set_cons_zero, List.set_cons_succ]
          go_upto_region 19 with fail
          refine fok19t (x := c.x) (g := g) (o := o) (n := na) (c := ac) (i := k) (pn := pn) (pc := pc) (pa := pa) (q := q) (TwoH w c c' (i + k)) _ wr _ rfl rfl rfl rfl rfl ha1 h63 (fun W e => by rw [e]; exact HLD.out) CS.out ?_
          intro a' w7 hf ha
          subst ha
          simp only [Act.put, List.setIfInBounds_toArray, List.set_cons_zero, List.set_cons_succ]
          have H7 := hidMk hf
          clear hf CS HLD
          by_cases hb1 : k < nb
          · obtain ⟨q, I, g, o, ho, rfl, hld⟩ := LB.out.at' (i := k) (by rw [HN.out.2.2.2]; exact hb1)
            have HLD : Hid ((Instr.loadAt 45 (.pointer (some ⟨g, o + 42 * k, none⟩))).run Tryd.prog w7 = .ok q.a w7) := hld w7 H7.out.bel
            have CS : Hid (Calls Tryd.prog 11 #[.pointer (some ⟨c'.x, 0, none⟩), q.a, .slice pa pn pc] w7 fun e w1 => e = .returned (.bool true) ∧ TwoP w c c' (i + k + 1) w1) := by
              rw [← HN.out.2.1]
              exact H7.out.stepB (by omega) LB.out KPS.out.2 ho
            clear H7 hld ho
            go_upto_region 21 with fail
            refine fok21t (x := c'.x) (g := g) (o := o) (n := nb) (c := bc) (i := k) (pn := pn) (pc := pc) (pa := pa) (q := q) (TwoP w c c' (i + k + 1)) _ w7 _ rfl rfl rfl rfl rfl hb1 h64 (fun W e => by rw [e]; exact HLD.out) CS.out ?_
            intro a' w8 hf ha
            subst ha
            simp only [Act.put, List.setIfInBounds_toArray, List.set_cons_zero, List.set_cons_succ]
            have H8 := hidMk hf
            clear hf CS HLD
            have H9 : Hid (TwoP w c c' (i + k + 1) w8.drew) := H8.out.below (Below.refl _ _).drew
            have CA : Hid (Calls Tryd.prog 12 #[.pointer (some ⟨c.ro, 0, none⟩), .pointer (some ⟨c.d, 0, none⟩), .slice pa pn pc] w8.drew fun e w1 => e = .returned (.bool true) ∧ TwoP w c c' (i + k + 1) w1 ∧ Calls Tryd.prog 12 #[.pointer (some ⟨c'.ro, 0, none⟩), .pointer (some ⟨c'.d, 0, none⟩), .slice pa pn pc] w1 fun e w2 => e = .returned (.bool true) ∧ TwoP w c c' (i + k + 1) w2) := by
              rw [← HN.out.2.1]
              refine (H9.out.alikeA (by omega) LI.out).mono ?_
              rintro e w1 ⟨rfl, h1⟩
              exact ⟨rfl, h1, h1.alikeB (by omega) LI.out⟩
            clear H8
            go_upto_region 23 with fail
            refine fok23 (x := c.x) (y := c'.x) (rb := c'.ro) (d := c'.d) (ro := c.ro) (dx := c.d) (pn := pn) (pc := pc) (pa := pa) (TwoP w c c' (i + k + 1)) _ w8 _ rfl rfl rfl rfl H9.out (fun W h => h.ld.2.2.1) (fun W h => h.ld.2.2.2) (fun W h => h.ld.1) (fun W h => h.ld.2.1) CA.out ?_
            intro a' w9 hf ha
            subst ha
            simp only [Act.put, List.setIfInBounds_toArray, List.set_cons_zero, List.set_cons_succ]
            have K9 : Hid (TwoP w c c' (i + (k + 1)) w9) := hf
            clear hf CA H9
            go_wp2
            rw [show ((k : Int) + 1) = ((k + 1 : Nat) : Int) by omega]
            refine ⟨⟨k + 1, rfl, by omega, K9.out⟩, ?_⟩
            show mx - ((k + 1 : Nat) : Int).toNat < mx - (k : Int).toNat
            omega
          · have H8 : Hid (TwoP w c c' (i + k + 1) w7) := H7.out.full
            clear H7
            go_upto_region 21 with fail
            refine fok21f (n := nb) (c := bc) (i := k) (la := ba) _ w7 _ rfl rfl rfl hb1 ?_
            intro a' wq hw' ha
            obtain rfl : w7 = wq := hw'.symm
            subst ha
            simp only [Act.put, List.setIfInBounds_toArray, List.set_cons_zero, List.set_cons_succ]
            have H9 : Hid (TwoP w c c' (i + k + 1) w7.drew) := H8.out.below (Below.refl _ _).drew
            have CA : Hid (Calls Tryd.prog 12 #[.pointer (some ⟨c.ro, 0, none⟩), .pointer (some ⟨c.d, 0, none⟩), .slice pa pn pc] w7.drew fun e w1 => e = .returned (.bool true) ∧ TwoP w c c' (i + k + 1) w1 ∧ Calls Tryd.prog 12 #[.pointer (some ⟨c'.ro, 0, none⟩), .pointer (some ⟨c'.d, 0, none⟩), .slice pa pn pc] w1 fun e w2 => e = .returned (.bool true) ∧ TwoP w c c' (i + k + 1) w2) := by
              rw [← HN.out.2.1]
              refine (H9.out.alikeA (by omega) LI.out).mono ?_
              rintro e w1 ⟨rfl, h1⟩
              exact ⟨rfl, h1, h1.alikeB (by omega) LI.out⟩
            clear H8
            go_upto_region 23 with fail
            refine fok23 (x := c.x) (y := c'.x) (rb := c'.ro) (d := c'.d) (ro := c.ro) (dx := c.d) (pn := pn) (pc := pc) (pa := pa) (TwoP w c c' (i + k + 1)) _ w7 _ rfl rfl rfl rfl H9.out (fun W h => h.ld.2.2.1) (fun W h => h.ld.2.2.2) (fun W h => h.ld.1) (fun W h => h.ld.2.1) CA.out ?_
            intro a' w9 hf ha
            subst ha
            simp only [Act.put, List.setIfInBounds_toArray, List.set_cons_zero, List.set_cons_succ]
            have K9 : Hid (TwoP w c c' (i + (k + 1)) w9) := hf
            clear hf CA H9
            go_wp2
            rw [show ((k : Int) + 1) = ((k + 1 : Nat) : Int) by omega]
            refine ⟨⟨k + 1, rfl, by omega, K9.out⟩, ?_⟩
            show mx - ((k + 1 : Nat) : Int).toNat < mx - (k : Int).toNat
            omega
        · by_cases hb1 : k < nb
          · go_upto_region 17 with fail
            refine fok17ft (n := na) (c := ac) (i := k) (la := aa) (m := nb) (e := bc) (lb := ba) _ wr _ rfl rfl rfl rfl ha1 hb1 ?_
            intro a' wq hw' ha
            obtain rfl : wr = wq := hw'.symm
            subst ha
            simp only [Act.put, List.setIfInBounds_toArray, List.set_cons_zero, List.set_cons_succ]
            go_upto_region 19 with fail
            refine fok19f (n := na) (c := ac) (i := k) (la := aa) _ wr _ rfl rfl rfl ha1 ?_
            intro a' wq hw' ha
            obtain rfl : wr = wq := hw'.symm
            subst ha
            simp only [Act.put, List.setIfInBounds_toArray, List.set_cons_zero, List.set_cons_succ]
            have H7 : Hid (TwoH w c c' (i + k) wr) := HI.out.half
            clear HI
            obtain ⟨q, I, g, o, ho, rfl, hld⟩ := LB.out.at' (i := k) (by rw [HN.out.2.2.2]; exact hb1)
            have HLD : Hid ((Instr.loadAt 45 (.pointer (some ⟨g, o + 42 * k, none⟩))).run Tryd.prog wr = .ok q.a wr) := hld wr H7.out.bel
            have CS : Hid (Calls Tryd.prog 11 #[.pointer (some ⟨c'.x, 0, none⟩), q.a, .slice pa pn pc] wr fun e w1 => e = .returned (.bool true) ∧ TwoP w c c' (i + k + 1) w1) := by
              rw [← HN.out.2.1]
              exact H7.out.stepB (by omega) LB.out KPS.out.2 ho
            clear H7 hld ho
            go_upto_region 21 with fail
            refine fok21t (x := c'.x) (g := g) (o := o) (n := nb) (c := bc) (i := k) (pn := pn) (pc := pc) (pa := pa) (q := q) (TwoP w c c' (i + k + 1)) _ wr _ rfl rfl rfl rfl rfl hb1 h64 (fun W e => by rw [e]; exact HLD.out) CS.out ?_
            intro a' w8 hf ha
            subst ha
            simp only [Act.put, List.setIfInBounds_toArray, List.set_cons_zero, List.set_cons_succ]
            have H8 := hidMk hf
            clear hf CS HLD
            have H9 : Hid (TwoP w c c' (i + k + 1) w8.drew) := H8.out.below (Below.refl _ _).drew
            have CA : Hid (Calls Tryd.prog 12 #[.pointer (some ⟨c.ro, 0, none⟩), .pointer (some ⟨c.d, 0, none⟩), .slice pa pn pc] w8.drew fun e w1 => e = .returned (.bool true) ∧ TwoP w c c' (i + k + 1) w1 ∧ Calls Tryd.prog 12 #[.pointer (some ⟨c'.ro, 0, none⟩), .pointer (some ⟨c'.d, 0, none⟩), .slice pa pn pc] w1 fun e w2 => e = .returned (.bool true) ∧ TwoP w c c' (i + k + 1) w2) := by
              rw [← HN.out.2.1]
              refine (H9.out.alikeA (by omega) LI.out).mono ?_
              rintro e w1 ⟨rfl, h1⟩
              exact ⟨rfl, h1, h1.alikeB (by omega) LI.out⟩
            clear H8
            go_upto_region 23 with fail
            refine fok23 (x := c.x) (y := c'.x) (rb := c'.ro) (d := c'.d) (ro := c.ro) (dx := c.d) (pn := pn) (pc := pc) (pa := pa) (TwoP w c c' (i + k + 1)) _ w8 _ rfl rfl rfl rfl H9.out (fun W h => h.ld.2.2.1) (fun W h => h.ld.2.2.2) (fun W h => h.ld.1) (fun W h => h.ld.2.1) CA.out ?_
            intro a' w9 hf ha
            subst ha
            simp only [Act.put, List.setIfInBounds_toArray, List.set_cons_zero, List.set_cons_succ]
            have K9 : Hid (TwoP w c c' (i + (k + 1)) w9) := hf
            clear hf CA H9
            go_wp2
            rw [show ((k : Int) + 1) = ((k + 1 : Nat) : Int) by omega]
            refine ⟨⟨k + 1, rfl, by omega, K9.out⟩, ?_⟩
            show mx - ((k + 1 : Nat) : Int).toNat < mx - (k : Int).toNat
            omega
          · go_upto_region 17 with fail
            refine fok17ff (n := na) (c := ac) (i := k) (la := aa) (m := nb) (e := bc) (lb := ba) _ wr _ rfl rfl rfl rfl ha1 hb1 ?_
            intro a' wq hw' ha
            obtain rfl : wr = wq := hw'.symm
            subst ha
            simp only [Act.put, List.setIfInBounds_toArray, List.set_cons_zero, List.set_cons_succ]
            go_wp2
            go_ret
            exact ⟨rfl, HI.out.bel⟩
end Go.Proofs.YtldlljobofnmmaaDoor
namespace Go.Proofs.YtldlljobofnmmaaDoor
open Go.ChangeShapes Go.WideShapes Go.ChangeAt Go.RowKit
set_option linter.unusedVariables false
set_option linter.unusedSimpArgs false
def Sm {H : Type} (t : TypeId) (d : DataW H) : Prop := ∀ n ∈ d.weights Tryd.prog t, n ≤ reachBytes
theorem wAll {H : Type} {P : Program} {e : TypeId} : ∀ {l : List (DataW H)} {i : Nat} {d : DataW H}, l[i]? = some d → ∀ n ∈ d.weights P e, n ∈ DataW.weightsAll P e l
  | x :: r, 0, d, h, n, hn => by
    simp only [List.getElem?_cons_zero, Option.some.injEq] at h
    subst h
    simp only [DataW.weightsAll, List.mem_append]
    exact .inl hn
  | x :: r, i + 1, d, h, n, hn => by
    simp only [List.getElem?_cons_succ] at h
    simp only [DataW.weightsAll, List.mem_append]
    exact .inr (wAll h n hn)
  | [], i, d, h, n, hn => by simp at h
theorem bytes_idR : Tryd.prog.bytesOf 38 = 40 := by kernel_rfl
section
variable {H : Type} {enc : TypeId × Value → H} {W : World}
theorem view_rowsS {κ : Type} {T e k : Nat} {encd : κ → List Value} {ok : κ → Prop} (hT : Tryd.prog.underlying T = some (.slice e)) (hce : Tryd.prog.cellsOf e = k) (hk : 0 < k) (hlen : ∀ x, ok x → (encd x).length = k)
    (hcells : ∀ (fuel : Nat) (cs : List Value) (y : DataW H × List MemPlace), DataW.trod enc Tryd.prog W 0 (fun _ => true) true fuel e cs = some y → Sm e y.1 → ∃ x, ok x ∧ cs = encd x)
    {a : Option Addr} {len cap : Nat} {d : DataW H} {p : List MemPlace} (h : DataW.Trod enc Tryd.prog W 0 (fun _ => true) true T (.slice a len cap) d p) (hb0 : Sm T d) :
    ∃ L : List κ, L.length = len ∧ (∀ x ∈ L, ok x) ∧ RowAt k encd W a L ∧ (d = .nil ∧ len = 0 ∨ ∃ el sp, d = .slice el sp ∧ el.length = len) := by
  obtain ⟨fuel, hf⟩ := h
  rcases DataW.trod_slice hT hf with ⟨hcs', hx⟩ | ⟨ad, l, c, elems, rest, n, _, hcs', hx, _, hl, hm, hel, hcell, _, _⟩
  · simp [Value.cells] at hcs'
    obtain ⟨rfl, rfl, rfl⟩ := hcs'
    simp only [Prod.mk.injEq] at hx
    exact ⟨[], rfl, fun v hv => (by cases hv), .inl rfl, .inl ⟨hx.1, rfl⟩⟩
  · simp [Value.cells] at hcs'
    obtain ⟨rfl, rfl, rfl⟩ := hcs'
    simp only [Prod.mk.injEq] at hx
    obtain ⟨b, off, spot⟩ := ad
    rw [hx.1] at hb0
    have raw : ∀ i, i < len → ∃ v : κ, ok v ∧ ∀ j u, (encd v)[j]? = some u → W.cell? (((⟨b, off, spot⟩ : Addr).add (i * k)).add j) = some u := fun i hi => by
      have hi2 := hcell i hi
      rw [List.getElem?_eq_getElem (by omega), hce, Option.bind_eq_some_iff] at hi2
      obtain ⟨cs, hc1, hc2⟩ := hi2
      obtain ⟨v, hv, rfl⟩ := hcells _ _ _ hc2 fun n hn => hb0 n (by
        simp only [DataW.weights, hT]
        exact List.mem_cons_of_mem _ (List.mem_append_left _ (wAll (i := i) (d := (elems[i]'(by omega)).1) (by rw [List.getElem?_map, List.getElem?_eq_getElem (by omega)]; rfl) n hn)))
      obtain ⟨_, _, hc3⟩ := World.cells?_some hc1
      refine ⟨v, hv, fun j u hu => ?_⟩
      have hj := (List.getElem?_eq_some_iff.1 hu).1
      rw [hlen v hv] at hj
      rw [hc3 j hj]
      exact hu
    have hspot : 0 < len → spot = none ∧ b < W.heap.size := fun h0 => by
      obtain ⟨v, hv, hc⟩ := raw 0 h0
      have q := hc 0 _ (List.getElem?_eq_getElem (by rw [hlen v hv]; omega))
      have q1 := World.cell?_spot q
      have q2 : spot = none := by simpa [Addr.add] using q1
      subst q2
      refine ⟨rfl, ?_⟩
      rw [Addr.add_mid, Addr.add_mid] at q
      exact block_lt_of_cell q
    by_cases h0 : 0 < len
    · obtain ⟨hs, hb⟩ := hspot h0
      subst hs
      obtain ⟨v0, _⟩ := raw 0 h0
      let F : Nat → κ := fun i => if h : i < len then Classical.choose (raw i h) else v0
      have hF : ∀ i (h : i < len), F i = Classical.choose (raw i h) := fun i h => dif_pos h
      refine ⟨(List.range len).map F, by simp, fun v hv => ?_, ?_, .inr ⟨_, _, hx.1, by simp [hel]⟩⟩
      · rw [List.mem_map] at hv
        obtain ⟨i, hi, rfl⟩ := hv
        rw [List.mem_range] at hi
        rw [hF i hi]
        exact (Classical.choose_spec (raw i hi)).1
      · refine .inr ⟨b, off, rfl, hb, fun i v hv => ?_⟩
        have hi : i < len := by
          have := (List.getElem?_eq_some_iff.1 hv).1
          simpa using this
        rw [List.getElem?_map, List.getElem?_range hi] at hv
        simp only [Option.map_some, Option.some.injEq] at hv
        subst hv
        rw [hF i hi]
        intro j u hu
        have := (Classical.choose_spec (raw i hi)).2 j u hu
        rwa [Addr.add_mid, Addr.add_mid] at this
    · obtain rfl : len = 0 := by omega
      exact ⟨[], rfl, fun v hv => (by cases hv), .inl rfl, .inr ⟨_, _, hx.1, by simp [hel]⟩⟩
theorem opS_cells (fuel : Nat) (cs : List Value) (y : DataW H × List MemPlace) (h : DataW.trod enc Tryd.prog W 0 (fun _ => true) true fuel 45 cs = some y) : ∃ x : OpR, x.ok W ∧ cs = x.c ∧ (Sm 45 y.1 → ∃ I, OpS W x I) := by
  obtain ⟨xs, n, _, hx, hcl, hlen, hfs⟩ := DataW.trod_struct Tryd.underlying45 h
  rw [cells_opR] at hcl
  have hlen : xs.length = 7 := hlen
  obtain ⟨A, R, rfl, hA, hR⟩ := list_split (n := 2) (m := 40) hcl
  obtain ⟨B, R, rfl, hB, hR⟩ := list_split (n := 33) (m := 7) hR
  obtain ⟨C, D, rfl, hC, hD⟩ := list_split (n := 4) (m := 3) hR
  obtain ⟨a0, a1, rfl⟩ : ∃ a b, A = [a, b] := by
    match A, hA with
    | [a, b], _ => exact ⟨a, b, rfl⟩
  obtain ⟨d0, d1, d2, rfl⟩ : ∃ a b c, D = [a, b, c] := by
    match D, hD with
    | [a, b, c], _ => exact ⟨a, b, c, rfl⟩
  match xs, hlen with
  | [y0, y1, y2, y3, y4, y5, y6], _ =>
    have t0 : DataW.trod enc Tryd.prog W 0 (fun _ => true) true n 3 ((([a0, a1] ++ (B ++ (C ++ [d0, d1, d2]))).drop 0).take (Tryd.prog.cellsOf 3)) = some y0 := hfs 0 _ rfl
    have t1 : DataW.trod enc Tryd.prog W 0 (fun _ => true) true n 3 ((([a0, a1] ++ (B ++ (C ++ [d0, d1, d2]))).drop 1).take (Tryd.prog.cellsOf 3)) = some y1 := hfs 1 _ rfl
    have t2 : DataW.trod enc Tryd.prog W 0 (fun _ => true) true n 38 ((([a0, a1] ++ (B ++ (C ++ [d0, d1, d2]))).drop 2).take (Tryd.prog.cellsOf 38)) = some y2 := hfs 2 _ rfl
    have t3 : DataW.trod enc Tryd.prog W 0 (fun _ => true) true n 42 ((([a0, a1] ++ (B ++ (C ++ [d0, d1, d2]))).drop 35).take (Tryd.prog.cellsOf 42)) = some y3 := hfs 3 _ rfl
    have t4 : DataW.trod enc Tryd.prog W 0 (fun _ => true) true n 2 ((([a0, a1] ++ (B ++ (C ++ [d0, d1, d2]))).drop 39).take (Tryd.prog.cellsOf 2)) = some y4 := hfs 4 _ rfl
    have t5 : DataW.trod enc Tryd.prog W 0 (fun _ => true) true n 43 ((([a0, a1] ++ (B ++ (C ++ [d0, d1, d2]))).drop 40).take (Tryd.prog.cellsOf 43)) = some y5 := hfs 5 _ rfl
    have t6 : DataW.trod enc Tryd.prog W 0 (fun _ => true) true n 3 ((([a0, a1] ++ (B ++ (C ++ [d0, d1, d2]))).drop 41).take (Tryd.prog.cellsOf 3)) = some y6 := hfs 6 _ rfl
    have dB : ([a0, a1] ++ (B ++ (C ++ [d0, d1, d2]))).drop 2 = B ++ (C ++ [d0, d1, d2]) := rfl
    have dC : ([a0, a1] ++ (B ++ (C ++ [d0, d1, d2]))).drop 35 = C ++ [d0, d1, d2] := by
      rw [show 35 = 2 + B.length by omega, ← List.drop_drop, dB, List.drop_left]
    have dD : ([a0, a1] ++ (B ++ (C ++ [d0, d1, d2]))).drop 39 = [d0, d1, d2] := by
      rw [show 39 = 35 + C.length by omega, ← List.drop_drop, dC, List.drop_left]
    have dE : ([a0, a1] ++ (B ++ (C ++ [d0, d1, d2]))).drop 40 = [d1, d2] := by
      rw [show 40 = 39 + 1 by omega, ← List.drop_drop, dD]; rfl
    have dF : ([a0, a1] ++ (B ++ (C ++ [d0, d1, d2]))).drop 41 = [d2] := by
      rw [show 41 = 39 + 2 by omega, ← List.drop_drop, dD]; rfl
    rw [cells_int] at t0 t1 t6
    rw [cells_id, dB, ← hB, List.take_left] at t2
    rw [cells_va, dC, ← hC, List.take_left] at t3
    rw [cells_i64, dD] at t4
    rw [cells_ids, dE] at t5
    rw [dF] at t6
    obtain ⟨z0, q0, _, w0⟩ := DataW.trod_int Tryd.underlying3 t0
    obtain ⟨z1, q1, _, w1⟩ := DataW.trod_int Tryd.underlying3 t1
    obtain ⟨x2, o2, q2⟩ := id_cells t2
    obtain ⟨x3, o3, q3⟩ := va_cells _ _ _ t3
    obtain ⟨z4, q4, _, w4⟩ := DataW.trod_int Tryd.underlying2 t4
    obtain ⟨z6, q6, _, w6⟩ := DataW.trod_int Tryd.underlying3 t6
    have t5' : DataW.trod enc Tryd.prog W 0 (fun _ => true) true n 43 [d1] = some y5 := t5
    obtain ⟨sa, sl, sc, hs⟩ : ∃ a l c, d1 = .slice a l c := by
      rcases DataW.trod_slice Tryd.underlying43 t5' with ⟨e, _⟩ | ⟨ad, l, c, _, _, _, _, e, _⟩
      · exact ⟨none, 0, 0, (List.cons.inj e).1⟩
      · exact ⟨some ad, l, c, (List.cons.inj e).1⟩
    subst hs
    obtain ⟨L, hl, hok, hat, hdd⟩ := view_rows (k := 33) (encd := IdK.c) (ok := IdK.ok) Tryd.underlying43 cells_id (by omega) (fun x hx => IdK.len hx) (fun fuel cs y h => id_cells h) (d := y5.1) (p := y5.2) ⟨n, t5'⟩
    simp at q0 q1 q4 q6
    subst q0 q1 q2 q3 q4 q6 hl
    have hokk : (⟨z0, z1, x2, x3, z4, .slice sa L.length sc, z6⟩ : OpR).ok W := ⟨o2, o3, i64_wf w0, i64_wf w1, i64_wf w4, i64_wf w6, sa, sc, L, rfl, hok, hat⟩
    refine ⟨⟨z0, z1, x2, x3, z4, .slice sa L.length sc, z6⟩, hokk, rfl, fun hb => ?_⟩
    have hn : L.length ≤ 3518437208883 := by
      rcases hdd with ⟨_, e⟩ | ⟨el, sp, e, hl⟩
      · omega
      · rw [hx] at hb
        have := hb ((el.length + sp.length) * Tryd.prog.bytesOf 38) (by
          simp only [DataW.weights, Tryd.underlying45]
          exact DataW.weights_mem_each (j := 5) (t := 43) rfl rfl _ (by show _ ∈ DataW.weights Tryd.prog 43 y5.1; rw [e]; simp [DataW.weights, Tryd.underlying43]))
        rw [bytes_idR] at this
        simp only [reachBytes] at this
        omega
    refine ⟨L, hokk, ⟨⟨sa, sc, rfl, ?_⟩, hok, by omega⟩, hn⟩
    rcases hat with h | ⟨b, off, e, h1, h2⟩
    · exact .inl h
    · exact .inr ⟨b, off, e, h1, fun i x hx => by show W.rangeAt b (off + 33 * i) _; rw [Nat.mul_comm]; exact h2 i x hx⟩
theorem sm_of {ts : List TypeId} {ds : List (DataW H)} (h : (DataW.weightsEach Tryd.prog ts ds).all (· ≤ reachBytes) = true) {j : Nat} {t : TypeId} {d : DataW H} (ht : ts[j]? = some t) (hd : ds[j]? = some d) : Sm t d := fun n hn => by
  have := List.all_eq_true.1 h n (DataW.weights_mem_each ht hd n hn)
  simpa using this
theorem view_opsS {a : Option Addr} {len cap : Nat} {d : DataW H} {p : List MemPlace} (h : DataW.Trod enc Tryd.prog W 0 (fun _ => true) true 23 (.slice a len cap) d p) (hb : Sm 23 d) :
    ∃ L : List OpR, L.length = len ∧ (∀ x ∈ L, ∃ I, OpS W x I) ∧ RowAt 42 OpR.c W a L ∧ (d = .nil ∧ len = 0 ∨ ∃ el sp, d = .slice el sp ∧ el.length = len) :=
  view_rowsS (ok := fun x => ∃ I, OpS W x I) Tryd.underlying23 cells_opR (by omega) (fun x hx => by obtain ⟨I, h⟩ := hx; exact OpR.len h.ok) (fun fuel cs y h hs => by
    obtain ⟨x, _, e, hi⟩ := opS_cells fuel cs y h
    exact ⟨x, hi hs, e⟩) h hb
end
end Go.Proofs.YtldlljobofnmmaaDoor
