import Derived.Test.YtpdepbakopdgpaaP2
set_option maxRecDepth 100000
set_option maxHeartbeats 4000000
namespace Go.Proofs.Ytpdepbakopdgpaa
open Go.RowKit Sq
set_option linter.unusedVariables false
set_option linter.unusedSimpArgs false
theorem ownV_one {w w' : World} {e b : Nat} {u : Value} {base : Nat} (h : w.heap[b]? = some (.cells #[u] e (0, 0))) (hb : base ≤ b) : OwnV w base e (.slice (some ⟨b, 0, none⟩) 1 1) [u] := ⟨rfl, .inr ⟨b, 1, #[u], rfl, hb, h, Nat.le_refl _, by decide, rfl, rfl⟩⟩
theorem plc_start {w w1 w2 w3 w4 : World} {s : Sx} (h1 : SeqAt w1 s []) (hs : ∀ j ∈ s.bl, w.heap.size ≤ j) (b1 : Below w.heap.size w w1) (e2 : w2 = w1.alloc (.cells #[.pointer (some ⟨s.sb, 0, none⟩)] 23)) (h3 : RefAt w3 w2.heap.size w2.heap.size (.slice none 0 0) []) (b3 : Below w2.heap.size w2 w3) (e4 : w4 = w3.alloc (.cells #[.pointer (some ⟨w2.heap.size, 0, none⟩)] 26)) :
    PlC w.heap.size w 0 w4 [some (s, [])] [some (w2.heap.size, .slice none 0 0, [])] (.slice (some ⟨w1.heap.size, 0, none⟩) 1 1) (.slice (some ⟨w3.heap.size, 0, none⟩) 1 1) := by
  have z2 : w2.heap.size = w1.heap.size + 1 := by rw [e2]; simp
  have z4 : w4.heap.size = w3.heap.size + 1 := by rw [e4]; simp
  have k2 : Below w1.heap.size w1 w2 := by rw [e2]; exact (Below.refl _ _).alloc (Nat.le_refl _) _
  have k4 : Below w3.heap.size w3 w4 := by rw [e4]; exact (Below.refl _ _).alloc (Nat.le_refl _) _
  have hz1 := b1.size
  have hz3 := b3.size
  have hss : w4.heap[w1.heap.size]? = some (.cells #[.pointer (some ⟨s.sb, 0, none⟩)] 23 (0, 0)) := (k4.block _ (by omega)).trans ((b3.block _ (by omega)).trans (by rw [e2]; exact heap_alloc_new _ _))
  have hms : w4.heap[w3.heap.size]? = some (.cells #[.pointer (some ⟨w2.heap.size, 0, none⟩)] 26 (0, 0)) := by rw [e4]; exact heap_alloc_new _ _
  have bel : Below w.heap.size w w4 := ((b1.trans (k2.mono hz1)).trans (b3.mono (by omega))).trans (k4.mono (by omega))
  have hsq : SeqAt w4 s [] := h1.keep (fun j hj => (k4.block j (by have := h1.lt j hj; omega)).trans ((b3.block j (by have := h1.lt j hj; omega)).trans (k2.block j (h1.lt j hj))))
  have hrf : RefAt w4 w.heap.size w2.heap.size (.slice none 0 0) [] := ⟨(h3.below k4).c0, RowT.own_nil RE _ _, RefOk.nil, by omega, by simp⟩
  refine ⟨⟨tgN (tgN (tgN (fun _ => 3) w1.heap.size 1) w2.heap.size 4) w3.heap.size 2, ⟨fun i s2 E hi => ?_, fun i d v R hi => ?_, ⟨ownV_one (w' := w4) hss hz1, fun k hk => ?_⟩, ⟨ownV_one (w' := w4) hms (by omega), fun k hk => ?_⟩, by omega, bel⟩⟩, rfl, fun i x y hx hy => ?_, by simp, by simp⟩
  · have hil := (List.getElem?_eq_some_iff.1 hi).1
    simp at hil
    subst hil
    simp at hi
    obtain ⟨rfl, rfl⟩ := hi
    refine ⟨hsq, fun j hj => ⟨?_, hs j hj⟩⟩
    have := h1.lt j hj
    rw [tgN_old (by omega), tgN_old (by omega), tgN_old this]
  · have hil := (List.getElem?_eq_some_iff.1 hi).1
    simp at hil
    subst hil
    simp at hi
    obtain ⟨rfl, rfl, rfl⟩ := hi
    refine ⟨hrf, ?_, fun k hk => by cases hk⟩
    have := h3.lt
    rw [tgN_old this, tgN_new (Nat.le_refl _)]
  · simp [Value.ownBlock] at hk
    subst hk
    rw [tgN_old (by omega), tgN_old (by omega), tgN_new (Nat.le_refl _)]
  · simp [Value.ownBlock] at hk
    subst hk
    exact tgN_new (Nat.le_refl _)
  · have hil := (List.getElem?_eq_some_iff.1 hx).1
    simp at hil
    subst hil
    simp at hx hy
    subst hx hy
    exact .inr ⟨s, [], w2.heap.size, .slice none 0 0, [], rfl, rfl, rfl, by simp⟩
theorem PlO.ssf {base m : Nat} {w0 w : World} {S : List (Option (Sx × List Elt))} {D : List (Option (Nat × Value × List Elt))} {sv mv : Value} {bo : Nat} {o : OpV} (h : PlO base w0 m w S D sv mv bo o) {i : Nat} (hi : i < S.length) {x : Option (Sx × List Elt)} {y : Option (Nat × Value × List Elt)} (hx : S[i]? = some x) (hy : D[i]? = some y) : ∃ ssb sc msb mc, sv = .slice (some ⟨ssb, 0, none⟩) S.length sc ∧ mv = .slice (some ⟨msb, 0, none⟩) S.length mc ∧ SSf ssb msb i (ptrS x) (ptrD y) bo o w := by
  obtain ⟨ssb, sc, msb, mc, e1, e2, c1, c2⟩ := h.c.cells hi hx hy
  exact ⟨ssb, sc, msb, mc, e1, e2, c1, c2, h.box.range⟩
theorem SSf.below {ssb msb i : Nat} {p q : Option Addr} {bo : Nat} {o : OpV} {w w' : World} (h : SSf ssb msb i p q bo o w) (b : Below w.heap.size w w') : SSf ssb msb i p q bo o w' := by
  have l1 := block_lt_of_cell h.1
  have l2 := block_lt_of_cell h.2.1
  have l3 := rangeAt_lt h.2.2 (by simp [OpV.c])
  exact ⟨(World.cell?_of_block (a := ⟨ssb, i, none⟩) (b.block _ l1)).trans h.1, (World.cell?_of_block (a := ⟨msb, i, none⟩) (b.block _ l2)).trans h.2.1, rangeAt_keep h.2.2 (b.block _ l3)⟩
set_option maxHeartbeats 16000000 in
theorem plays_all (a : Option Addr) (c : Nat) (M : List OpV) (w : World) (hO : OpsAt w a M) (okM : ∀ x ∈ M, x.ok) (hM : M.length ≤ 1256584717422) : Calls Try.prog 3 #[.slice a M.length c] w fun e w' => e = .returned (.bool true) ∧ Below w.heap.size w w' := by
  obtain ⟨n, hn⟩ : ∃ n, M.length = n := ⟨_, rfl⟩
  have HMl := hidMk (And.intro hn hM)
  have HN1 := hidMk (new_any w)
  rw [hn]
  clear hn hM
  go_enter Try.func3, Try.ntmps3
  go_upto_region 1 with fail
  refine ply1 (fun p sv X => ∃ (s0 : Sx) (w1 : World), p = some ⟨s0.sb, 0, none⟩ ∧ sv = .slice (some ⟨w1.heap.size, 0, none⟩) 1 1 ∧ SeqAt w1 s0 [] ∧ (∀ j ∈ s0.bl, w.heap.size ≤ j) ∧ Below w.heap.size w w1 ∧ X = w1.alloc (.cells #[.pointer (some ⟨s0.sb, 0, none⟩)] 23)) _ _ _ rfl (HN1.out.mono fun e w1 h => by
    obtain ⟨s0, e1, h1, c1, b1⟩ := h
    exact ⟨_, e1, _, _, bsS _ w1, s0, w1, rfl, rfl, h1, c1, b1, rfl⟩) ?_
  rintro p sv a' w2 ⟨s0, w1, rfl, rfl, h1, c1, b1, hw2⟩ ha
  subst ha
  simp only [Act.put, List.setIfInBounds_toArray, List.set_cons_zero, List.set_cons_succ]
  go_upto_region 2 with fail
  refine ply2 (fun p sv X => ∃ w3 : World, p = some ⟨w2.heap.size, 0, none⟩ ∧ sv = .slice (some ⟨w3.heap.size, 0, none⟩) 1 1 ∧ RefAt w3 w2.heap.size w2.heap.size (.slice none 0 0) [] ∧ Below w2.heap.size w2 w3 ∧ X = w3.alloc (.cells #[.pointer (some ⟨w2.heap.size, 0, none⟩)] 26)) _ _ _ rfl ((new_ref w2).mono fun e w3 h => by
    obtain ⟨e1, h3, b3⟩ := h
    exact ⟨_, e1, _, _, bsD _ w3, w3, rfl, rfl, h3, b3, rfl⟩) ?_
  rintro p sv a' w4 ⟨w3, rfl, rfl, h3, b3, hw4⟩ ha
  subst ha
  simp only [Act.put, List.setIfInBounds_toArray, List.set_cons_zero, List.set_cons_succ]
  have P0 := plc_start h1 c1 b1 hw2 h3 b3 hw4
  obtain ⟨ssb0, hssb⟩ : ∃ b, w1.heap.size = b := ⟨_, rfl⟩
  obtain ⟨msb0, hmsb⟩ : ∃ b, w3.heap.size = b := ⟨_, rfl⟩
  rw [hssb, hmsb] at P0 ⊢
  obtain ⟨ssb1, sc1, msb1, mc1, q1, q2, q3, q4⟩ := P0.cells (i := 0) (by simp) rfl rfl
  cases q1
  have st0 : Hid (∃ S D, PlC w.heap.size w 0 w4 S D (.slice (some ⟨ssb0, 0, none⟩) 1 1) (.slice (some ⟨msb0, 0, none⟩) 1 1)) := ⟨_, _, P0⟩
  have q5 : w4.cell? ⟨ssb0, 0, none⟩ = some (.pointer (some ⟨s0.sb, 0, none⟩)) := q3
  clear P0 q2 q3 q4 hw4 hw2 hssb hmsb h1 c1 b1 h3 b3 HN1
  go_upto_region 3 with fail
  refine ply3 (m := 1) _ _ _ rfl rfl (by omega) (by omega) q5 ?_
  intro a' w5 hw5 ha
  subst ha
  obtain rfl : w5 = w4 := hw5
  simp only [Act.put, List.setIfInBounds_toArray, List.set_cons_zero, List.set_cons_succ]
  clear q5
  go_wp2
  go_loopw [3, 4, 21] (fun v3 v4 v21 wr => ∃ (i : Nat) (sv mv : Value), sv = v3 ∧ mv = v4 ∧ v21 = .int .i64 (i : Int) ∧ i ≤ n ∧ Hid (∃ S D, PlC w.heap.size w i wr S D sv mv)) (fun v3 v4 v21 wr => n - (match v21 with | .int _ i => i.toNat | _ => 0))
  case atStart => exact ⟨0, _, _, rfl, rfl, rfl, Nat.zero_le _, st0⟩
  case round =>
    clear st0
    obtain ⟨i, sv, mv, rfl, rfl, rfl, hin, hI⟩ := hrel
    obtain ⟨hLn, hbig⟩ := HMl.out
    obtain ⟨S, D, hC⟩ := hI.out
    clear hI
    by_cases hi : i < n
    · have hi' : i < M.length := by omega
      have hm : n ≤ 1400000000000 := by omega
      obtain ⟨pb, po, rfl, hb, hr⟩ := hO.get hi'
      have hpo := okM M[i] (List.getElem_mem hi')
      generalize M[i] = o at *
      have hbel : Below w.heap.size w wr := by obtain ⟨tg, hp⟩ := hC.pl; exact hp.bel
      have him : i + 2 ≤ 1400000000000 := by omega
      have hSn : S.length ≤ 1400000000001 := by have := hC.n; omega
      clear hLn hbig
      go_upto_region 7 with fail
      obtain ⟨w5, E1, hbox, b5⟩ := box_new (w := wr) hpo
      refine ply7 (o := o) _ _ _ rfl rfl rfl hpo hi hm (rangeAt_keep hr (hbel.block pb hb)) E1 ?_
      intro a' w5' hw5 ha
      subst ha
      obtain rfl : w5' = w5 := hw5
      simp only [Act.put, List.setIfInBounds_toArray, List.set_cons_zero, List.set_cons_succ]
      have O5 := hC.boxed hbox b5
      generalize wr.heap.size = bo at *
      have hn0 := hC.n0
      clear hC hbox b5 E1 hbel
      have HSV : ∃ sa sc, sv = .slice sa S.length sc := by
        obtain ⟨tg, hp, _⟩ := O5.pl
        obtain ⟨bb, cc, e, _⟩ := hp.so.1.form (i := 0) (by rw [List.length_map]; exact hn0)
        rw [List.length_map] at e
        exact ⟨_, _, e⟩
      obtain ⟨sa, sc, rfl⟩ := HSV
      go_upto_region 8 with fail
      refine ply8 (o := o) (m := S.length) (fun k X => k < S.length ∧ X = w5') _ _ _ rfl rfl rfl O5.box.range (which_any o.which hpo.which hn0 hSn w5') ?_
      rintro k a' w6 ⟨hk, rfl⟩ ha
      subst ha
      simp only [Act.put, List.setIfInBounds_toArray, List.set_cons_zero, List.set_cons_succ]
      go_upto_region 10 with fail
      refine ply10 (o := o) _ _ _ rfl rfl O5.box.range ?_
      intro a' w7 hw7 ha
      subst ha
      obtain rfl : w7 = w6 := hw7
      simp only [Act.put, List.setIfInBounds_toArray, List.set_cons_zero, List.set_cons_succ]
      obtain ⟨x, y, E, R, hx, hy, two, hpq⟩ := O5.c.two hk
      obtain ⟨ssb, sc2, msb, mc, e1, e2, ss5⟩ := O5.ssf hk hx hy
      cases e1
      subst e2
      by_cases k0 : o.kind = 0
      · skip
        have q0 : (o.kind == 0) = true := by simp [k0]
        clear k0
        obtain ⟨cc, CI⟩ := O5.drew.both hk hx hy rfl rfl (ss5.below ((Below.refl _ _).drew)) 12 13 (fun p => #[p, o.id.v, o.bh.v]) (fun E => insC E o.id o.bh) (fun E => insR E o.id o.bh) (fun R => insD R o.id o.bh)
          (fun W => pnil_insert W o.id o.bh) (fun W => rnil_insert W o.id o.bh) (fun W s E h hl => insert_any h hpo.id hpo.bh (by omega)) (fun W d v R h hl hb => insert_at h hpo.id hpo.bh (by omega) hb) (fun R => insC_row R o.id o.bh) (fun R => (insD_row R o.id o.bh).symm) (fun R => insD_len R o.id o.bh)
        clear two hpq
        go_upto_region 13 with fail
        refine ply13 (o := o) (p := ptrS x) (q := ptrD y) (c := cc) (fun X => ∃ (S' : List (Option (Sx × List Elt))) (D' : List (Option (Nat × Value × List Elt))), S'.length = S.length ∧ PlO w.heap.size w (i + 1) X S' D' (.slice (some ⟨ssb, 0, none⟩) S.length sc) (.slice (some ⟨msb, 0, none⟩) S.length mc) bo o) _ _ _ rfl rfl rfl rfl rfl hpo hk hSn (ss5.below ((Below.refl _ _).drew)) CI ?_
        rintro a' w9 ⟨S2, D2, hS2, O9⟩ ha
        subst ha
        simp only [Act.put, List.setIfInBounds_toArray, List.set_cons_zero, List.set_cons_succ]
        clear CI O5 ss5
        obtain ⟨N, hN⟩ : ∃ N, S2.length = N + 1 := ⟨S2.length - 1, by have := O9.n0; omega⟩
        have hNb : N + 1 ≤ 1400000000001 := by have := O9.n; omega
        obtain ⟨x9, y9, E9, R9, hx9, hy9, two9, hpq9⟩ := O9.c.two (i := N) (by omega)
        obtain ⟨ssb9, sc9, msb9, mc9, e91, e92, ss9⟩ := O9.ssf (i := N) (by omega) hx9 hy9
        rw [hS2] at e91 e92 hN
        cases e91
        cases e92
        have HN9 := hidMk hN
        have HO9 := hidMk O9
        have HQ9 := hidMk hpq9
        clear O9 two9 hN
        go_upto_region 26 with fail
        refine ply26 (m := S.length) (i := N) _ _ _ rfl rfl ⟨HN9.out, by omega⟩ ?_
        intro a' wA hwA ha
        subst ha
        obtain rfl : wA = _ := hwA
        simp only [Act.put, List.setIfInBounds_toArray, List.set_cons_zero, List.set_cons_succ]
        go_upto_region 27 with fail
        refine ply27 (m := S.length) (i := N) (p := ptrS x9) (q := ptrD y9) _ _ _ rfl rfl rfl rfl rfl (by rw [HN9.out]; omega) (by rw [HN9.out]; exact hNb) HQ9.out ss9.1 ss9.2.1 ?_
        intro a' wB hwB ha
        subst ha
        obtain rfl : wB = _ := hwB
        simp only [Act.put, List.setIfInBounds_toArray, List.set_cons_zero, List.set_cons_succ]
        have HC9 := hidMk HO9.out.c.drew
        clear HO9 HQ9 ss9 hx9 hy9
        generalize World.drew _ = wC at *
        go_wp2
        have hq : ((i : Int) + 1) = ((i + 1 : Nat) : Int) := by omega
        rw [hq]
        refine ⟨⟨i + 1, _, _, rfl, rfl, rfl, hi, S2, D2, HC9.out⟩, ?_⟩
        show n - ((i + 1 : Nat) : Int).toNat < n - (i : Int).toNat
        omega
      · skip
        by_cases k1 : o.kind = 1
        · skip
          have q0 : (o.kind == 0) = false := by simpa using k0
          clear k0
          have q1 : (o.kind == 1) = true := by simp [k1]
          clear k1
          obtain ⟨cc, CI⟩ := O5.drew.both hk hx hy rfl rfl (ss5.below ((Below.refl _ _).drew)) 14 15 (fun p => #[p, o.id.v]) (fun E => takC E o.id) (fun E => takR E o.id) (fun R => takR R o.id)
            (fun W => pnil_take W o.id) (fun W => rnil_take W o.id) (fun W s E h hl => take_any h hpo.id) (fun W d v R h hl hb => rtake_at h hpo.id hb) (fun R => takC_row R o.id) (fun R => (tak_row R o.id).symm) (fun R => Nat.le_succ_of_le (takR_len R o.id))
          clear two hpq
          go_upto_region 15 with fail
          refine ply15 (o := o) (p := ptrS x) (q := ptrD y) (c := cc) (fun X => ∃ (S' : List (Option (Sx × List Elt))) (D' : List (Option (Nat × Value × List Elt))), S'.length = S.length ∧ PlO w.heap.size w (i + 1) X S' D' (.slice (some ⟨ssb, 0, none⟩) S.length sc) (.slice (some ⟨msb, 0, none⟩) S.length mc) bo o) _ _ _ rfl rfl rfl rfl rfl hpo hk hSn (ss5.below ((Below.refl _ _).drew)) CI ?_
          rintro a' w9 ⟨S2, D2, hS2, O9⟩ ha
          subst ha
          simp only [Act.put, List.setIfInBounds_toArray, List.set_cons_zero, List.set_cons_succ]
          clear CI O5 ss5
          obtain ⟨N, hN⟩ : ∃ N, S2.length = N + 1 := ⟨S2.length - 1, by have := O9.n0; omega⟩
          have hNb : N + 1 ≤ 1400000000001 := by have := O9.n; omega
          obtain ⟨x9, y9, E9, R9, hx9, hy9, two9, hpq9⟩ := O9.c.two (i := N) (by omega)
          obtain ⟨ssb9, sc9, msb9, mc9, e91, e92, ss9⟩ := O9.ssf (i := N) (by omega) hx9 hy9
          rw [hS2] at e91 e92 hN
          cases e91
          cases e92
          have HN9 := hidMk hN
          have HO9 := hidMk O9
          have HQ9 := hidMk hpq9
          clear O9 two9 hN
          go_upto_region 26 with fail
          refine ply26 (m := S.length) (i := N) _ _ _ rfl rfl ⟨HN9.out, by omega⟩ ?_
          intro a' wA hwA ha
          subst ha
          obtain rfl : wA = _ := hwA
          simp only [Act.put, List.setIfInBounds_toArray, List.set_cons_zero, List.set_cons_succ]
          go_upto_region 27 with fail
          refine ply27 (m := S.length) (i := N) (p := ptrS x9) (q := ptrD y9) _ _ _ rfl rfl rfl rfl rfl (by rw [HN9.out]; omega) (by rw [HN9.out]; exact hNb) HQ9.out ss9.1 ss9.2.1 ?_
          intro a' wB hwB ha
          subst ha
          obtain rfl : wB = _ := hwB
          simp only [Act.put, List.setIfInBounds_toArray, List.set_cons_zero, List.set_cons_succ]
          have HC9 := hidMk HO9.out.c.drew
          clear HO9 HQ9 ss9 hx9 hy9
          generalize World.drew _ = wC at *
          go_wp2
          have hq : ((i : Int) + 1) = ((i + 1 : Nat) : Int) := by omega
          rw [hq]
          refine ⟨⟨i + 1, _, _, rfl, rfl, rfl, hi, S2, D2, HC9.out⟩, ?_⟩
          show n - ((i + 1 : Nat) : Int).toNat < n - (i : Int).toNat
          omega
        · skip
          by_cases k2 : o.kind = 2
          · skip
            have q0 : (o.kind == 0) = false := by simpa using k0
            clear k0
            have q1 : (o.kind == 1) = false := by simpa using k1
            clear k1
            have q2 : (o.kind == 2) = true := by simp [k2]
            clear k2
            obtain ⟨cc, CI⟩ := O5.drew.both hk hx hy rfl rfl (ss5.below ((Below.refl _ _).drew)) 16 17 (fun p => #[p, o.id.v, .bool o.sh]) (fun E => showC E o.id) (fun E => showE E o.id o.sh) (fun R => showE R o.id o.sh)
              (fun W => pnil_show W o.id o.sh) (fun W => rnil_show W o.id o.sh) (fun W s E h hl => show_any h hpo.id o.sh) (fun W d v R h hl hb => rshow_at h hpo.id o.sh) (fun R => showC_row R o.id) (fun R => (show_row R o.id o.sh).symm) (fun R => by rw [showE_len]; omega)
            clear two hpq
            go_upto_region 17 with fail
            refine ply17 (o := o) (p := ptrS x) (q := ptrD y) (c := cc) (fun X => ∃ (S' : List (Option (Sx × List Elt))) (D' : List (Option (Nat × Value × List Elt))), S'.length = S.length ∧ PlO w.heap.size w (i + 1) X S' D' (.slice (some ⟨ssb, 0, none⟩) S.length sc) (.slice (some ⟨msb, 0, none⟩) S.length mc) bo o) _ _ _ rfl rfl rfl rfl rfl hpo hk hSn (ss5.below ((Below.refl _ _).drew)) CI ?_
            rintro a' w9 ⟨S2, D2, hS2, O9⟩ ha
            subst ha
            simp only [Act.put, List.setIfInBounds_toArray, List.set_cons_zero, List.set_cons_succ]
            clear CI O5 ss5
            obtain ⟨N, hN⟩ : ∃ N, S2.length = N + 1 := ⟨S2.length - 1, by have := O9.n0; omega⟩
            have hNb : N + 1 ≤ 1400000000001 := by have := O9.n; omega
            obtain ⟨x9, y9, E9, R9, hx9, hy9, two9, hpq9⟩ := O9.c.two (i := N) (by omega)
            obtain ⟨ssb9, sc9, msb9, mc9, e91, e92, ss9⟩ := O9.ssf (i := N) (by omega) hx9 hy9
            rw [hS2] at e91 e92 hN
            cases e91
            cases e92
            have HN9 := hidMk hN
            have HO9 := hidMk O9
            have HQ9 := hidMk hpq9
            clear O9 two9 hN
            go_upto_region 26 with fail
            refine ply26 (m := S.length) (i := N) _ _ _ rfl rfl ⟨HN9.out, by omega⟩ ?_
            intro a' wA hwA ha
            subst ha
            obtain rfl : wA = _ := hwA
            simp only [Act.put, List.setIfInBounds_toArray, List.set_cons_zero, List.set_cons_succ]
            go_upto_region 27 with fail
            refine ply27 (m := S.length) (i := N) (p := ptrS x9) (q := ptrD y9) _ _ _ rfl rfl rfl rfl rfl (by rw [HN9.out]; omega) (by rw [HN9.out]; exact hNb) HQ9.out ss9.1 ss9.2.1 ?_
            intro a' wB hwB ha
            subst ha
            obtain rfl : wB = _ := hwB
            simp only [Act.put, List.setIfInBounds_toArray, List.set_cons_zero, List.set_cons_succ]
            have HC9 := hidMk HO9.out.c.drew
            clear HO9 HQ9 ss9 hx9 hy9
            generalize World.drew _ = wC at *
            go_wp2
            have hq : ((i : Int) + 1) = ((i + 1 : Nat) : Int) := by omega
            rw [hq]
            refine ⟨⟨i + 1, _, _, rfl, rfl, rfl, hi, S2, D2, HC9.out⟩, ?_⟩
            show n - ((i + 1 : Nat) : Int).toNat < n - (i : Int).toNat
            omega
          · skip
            by_cases k3 : o.kind = 3
            · skip
              have q0 : (o.kind == 0) = false := by simpa using k0
              clear k0
              have q1 : (o.kind == 1) = false := by simpa using k1
              clear k1
              have q2 : (o.kind == 2) = false := by simpa using k2
              clear k2
              have q3 : (o.kind == 3) = true := by simp [k3]
              clear k3
              have CF := O5.forkS hk hx him
              go_upto_region 19 with fail
              refine ply19 (p := ptrS x) (fun pn v2 X => ∃ x', PlM w.heap.size w i X S D v2 (.slice (some ⟨msb, 0, none⟩) S.length mc) bo o k x') _ _ _ rfl rfl rfl hk hSn ss5.1 (CF.mono fun e w' h => h) ?_
              rintro pn v2 sv2 a' w8 ⟨x', M8⟩ ha
              subst ha
              simp only [Act.put, List.setIfInBounds_toArray, List.set_cons_zero, List.set_cons_succ]
              clear CF O5 ss5 two hpq hy
              obtain ⟨y8, msb8, mc8, hy8, em8, hc8⟩ := M8.cell hk
              cases em8
              have CG := M8.forkD hk hy8 him
              go_upto_region 20 with fail
              refine ply20 (q := ptrD y8) (fun pn2 v3 X => ∃ (S' : List (Option (Sx × List Elt))) (D' : List (Option (Nat × Value × List Elt))), S'.length = S.length + 1 ∧ PlO w.heap.size w (i + 1) X S' D' v2 v3 bo o) _ _ _ rfl rfl rfl hk hSn hc8 (CG.mono fun e w' h => h) ?_
              rintro pn2 v3 sv3 a' w9 ⟨S2, D2, hS2, O9⟩ ha
              subst ha
              simp only [Act.put, List.setIfInBounds_toArray, List.set_cons_zero, List.set_cons_succ]
              clear CG M8 hc8 hy8
              obtain ⟨N, hN⟩ : ∃ N, S2.length = N + 1 := ⟨S2.length - 1, by have := O9.n0; omega⟩
              have hNb : N + 1 ≤ 1400000000001 := by have := O9.n; omega
              obtain ⟨x9, y9, E9, R9, hx9, hy9, two9, hpq9⟩ := O9.c.two (i := N) (by omega)
              obtain ⟨ssb9, sc9, msb9, mc9, e91, e92, ss9⟩ := O9.ssf (i := N) (by omega) hx9 hy9
              cases e91
              cases e92
              have HN9 := hidMk hN
              have HO9 := hidMk O9
              have HQ9 := hidMk hpq9
              clear O9 two9 hN
              go_upto_region 26 with fail
              refine ply26 (m := S2.length) (i := N) _ _ _ rfl rfl ⟨HN9.out, by omega⟩ ?_
              intro a' wA hwA ha
              subst ha
              obtain rfl : wA = _ := hwA
              simp only [Act.put, List.setIfInBounds_toArray, List.set_cons_zero, List.set_cons_succ]
              go_upto_region 27 with fail
              refine ply27 (m := S2.length) (i := N) (p := ptrS x9) (q := ptrD y9) _ _ _ rfl rfl rfl rfl rfl (by rw [HN9.out]; omega) (by rw [HN9.out]; exact hNb) HQ9.out ss9.1 ss9.2.1 ?_
              intro a' wB hwB ha
              subst ha
              obtain rfl : wB = _ := hwB
              simp only [Act.put, List.setIfInBounds_toArray, List.set_cons_zero, List.set_cons_succ]
              have HC9 := hidMk HO9.out.c.drew
              clear HO9 HQ9 ss9 hx9 hy9
              generalize World.drew _ = wC at *
              go_wp2
              have hq : ((i : Int) + 1) = ((i + 1 : Nat) : Int) := by omega
              rw [hq]
              refine ⟨⟨i + 1, _, _, rfl, rfl, rfl, hi, S2, D2, HC9.out⟩, ?_⟩
              show n - ((i + 1 : Nat) : Int).toNat < n - (i : Int).toNat
              omega
            · skip
              by_cases k4 : o.kind = 4
              · skip
                have q0 : (o.kind == 0) = false := by simpa using k0
                clear k0
                have q1 : (o.kind == 1) = false := by simpa using k1
                clear k1
                have q2 : (o.kind == 2) = false := by simpa using k2
                clear k2
                have q3 : (o.kind == 3) = false := by simpa using k3
                clear k3
                have q4 : (o.kind == 4) = true := by simp [k4]
                clear k4
                obtain ⟨bv, w8, v2, w9, e81, e82, M9⟩ := O5.pushNil him
                go_upto_region 22 with fail
                refine ply22 _ _ _ rfl rfl e81 e82 ?_
                intro a' wz hwz ha
                subst ha
                obtain rfl : wz = w9 := hwz
                simp only [Act.put, List.setIfInBounds_toArray, List.set_cons_zero, List.set_cons_succ]
                clear e81 e82 O5 ss5 two hpq
                obtain ⟨bv2, w10, v3, w11, e91, e92, O9⟩ := doneNil M9 him
                go_upto_region 23 with fail
                refine ply23 _ _ _ rfl rfl e91 e92 ?_
                intro a' wy hwy ha
                subst ha
                obtain rfl : wy = w11 := hwy
                simp only [Act.put, List.setIfInBounds_toArray, List.set_cons_zero, List.set_cons_succ]
                clear e91 e92 M9
                obtain ⟨S2, D2, O9⟩ := O9
                obtain ⟨N, hN⟩ : ∃ N, S2.length = N + 1 := ⟨S2.length - 1, by have := O9.n0; omega⟩
                have hNb : N + 1 ≤ 1400000000001 := by have := O9.n; omega
                obtain ⟨x9, y9, E9, R9, hx9, hy9, two9, hpq9⟩ := O9.c.two (i := N) (by omega)
                obtain ⟨ssb9, sc9, msb9, mc9, e91, e92, ss9⟩ := O9.ssf (i := N) (by omega) hx9 hy9
                cases e91
                cases e92
                have HN9 := hidMk hN
                have HO9 := hidMk O9
                have HQ9 := hidMk hpq9
                clear O9 two9 hN
                go_upto_region 26 with fail
                refine ply26 (m := S2.length) (i := N) _ _ _ rfl rfl ⟨HN9.out, by omega⟩ ?_
                intro a' wA hwA ha
                subst ha
                obtain rfl : wA = _ := hwA
                simp only [Act.put, List.setIfInBounds_toArray, List.set_cons_zero, List.set_cons_succ]
                go_upto_region 27 with fail
                refine ply27 (m := S2.length) (i := N) (p := ptrS x9) (q := ptrD y9) _ _ _ rfl rfl rfl rfl rfl (by rw [HN9.out]; omega) (by rw [HN9.out]; exact hNb) HQ9.out ss9.1 ss9.2.1 ?_
                intro a' wB hwB ha
                subst ha
                obtain rfl : wB = _ := hwB
                simp only [Act.put, List.setIfInBounds_toArray, List.set_cons_zero, List.set_cons_succ]
                have HC9 := hidMk HO9.out.c.drew
                clear HO9 HQ9 ss9 hx9 hy9
                generalize World.drew _ = wC at *
                go_wp2
                have hq : ((i : Int) + 1) = ((i + 1 : Nat) : Int) := by omega
                rw [hq]
                refine ⟨⟨i + 1, _, _, rfl, rfl, rfl, hi, S2, D2, HC9.out⟩, ?_⟩
                show n - ((i + 1 : Nat) : Int).toNat < n - (i : Int).toNat
                omega
              · skip
                by_cases k5 : o.kind = 5
                · skip
                  have q0 : (o.kind == 0) = false := by simpa using k0
                  clear k0
                  have q1 : (o.kind == 1) = false := by simpa using k1
                  clear k1
                  have q2 : (o.kind == 2) = false := by simpa using k2
                  clear k2
                  have q3 : (o.kind == 3) = false := by simpa using k3
                  clear k3
                  have q4 : (o.kind == 4) = false := by simpa using k4
                  clear k4
                  have q5 : (o.kind == 5) = true := by simp [k5]
                  clear k5
                  have CL := lists_any (two.below ((Below.refl w7.heap.size w7).drew))
                  go_upto_region 25 with fail
                  refine ply25 (o := o) (p := ptrS x) (q := ptrD y) (fun X => PlO w.heap.size w (i + 1) X S D (.slice (some ⟨ssb, 0, none⟩) S.length sc) (.slice (some ⟨msb, 0, none⟩) S.length mc) bo o) _ _ _ rfl rfl rfl rfl rfl hpo hk hSn (ss5.below ((Below.refl _ _).drew)) (CL.mono fun e w' ⟨h1, h2⟩ => ⟨h1, (ss5.below ((Below.refl _ _).drew)).below h2, (O5.drew.below h2).mono (by omega)⟩) ?_
                  intro a' w9 O9 ha
                  subst ha
                  simp only [Act.put, List.setIfInBounds_toArray, List.set_cons_zero, List.set_cons_succ]
                  clear CL O5 ss5 two hpq
                  obtain ⟨N, hN⟩ : ∃ N, S.length = N + 1 := ⟨S.length - 1, by have := O9.n0; omega⟩
                  have hNb : N + 1 ≤ 1400000000001 := by have := O9.n; omega
                  obtain ⟨x9, y9, E9, R9, hx9, hy9, two9, hpq9⟩ := O9.c.two (i := N) (by omega)
                  obtain ⟨ssb9, sc9, msb9, mc9, e91, e92, ss9⟩ := O9.ssf (i := N) (by omega) hx9 hy9
                  cases e91
                  cases e92
                  have HN9 := hidMk hN
                  have HO9 := hidMk O9
                  have HQ9 := hidMk hpq9
                  clear O9 two9 hN
                  go_upto_region 26 with fail
                  refine ply26 (m := S.length) (i := N) _ _ _ rfl rfl ⟨HN9.out, by omega⟩ ?_
                  intro a' wA hwA ha
                  subst ha
                  obtain rfl : wA = _ := hwA
                  simp only [Act.put, List.setIfInBounds_toArray, List.set_cons_zero, List.set_cons_succ]
                  go_upto_region 27 with fail
                  refine ply27 (m := S.length) (i := N) (p := ptrS x9) (q := ptrD y9) _ _ _ rfl rfl rfl rfl rfl (by rw [HN9.out]; omega) (by rw [HN9.out]; exact hNb) HQ9.out ss9.1 ss9.2.1 ?_
                  intro a' wB hwB ha
                  subst ha
                  obtain rfl : wB = _ := hwB
                  simp only [Act.put, List.setIfInBounds_toArray, List.set_cons_zero, List.set_cons_succ]
                  have HC9 := hidMk HO9.out.c.drew
                  clear HO9 HQ9 ss9 hx9 hy9
                  generalize World.drew _ = wC at *
                  go_wp2
                  have hq : ((i : Int) + 1) = ((i + 1 : Nat) : Int) := by omega
                  rw [hq]
                  refine ⟨⟨i + 1, _, _, rfl, rfl, rfl, hi, S, D, HC9.out⟩, ?_⟩
                  show n - ((i + 1 : Nat) : Int).toNat < n - (i : Int).toNat
                  omega
                · skip
                  have q0 : (o.kind == 0) = false := by simpa using k0
                  clear k0
                  have q1 : (o.kind == 1) = false := by simpa using k1
                  clear k1
                  have q2 : (o.kind == 2) = false := by simpa using k2
                  clear k2
                  have q3 : (o.kind == 3) = false := by simpa using k3
                  clear k3
                  have q4 : (o.kind == 4) = false := by simpa using k4
                  clear k4
                  have q5 : (o.kind == 5) = false := by simpa using k5
                  clear k5
                  have CL := asks_any (two.below ((Below.refl w7.heap.size w7).drew)) hpo.id o.n hpo.n
                  go_upto_region 11 with fail
                  refine ply11 (o := o) (p := ptrS x) (q := ptrD y) (fun X => PlO w.heap.size w (i + 1) X S D (.slice (some ⟨ssb, 0, none⟩) S.length sc) (.slice (some ⟨msb, 0, none⟩) S.length mc) bo o) _ _ _ rfl rfl rfl rfl rfl hpo hk hSn (ss5.below ((Below.refl _ _).drew)) (CL.mono fun e w' ⟨h1, h2⟩ => ⟨h1, (ss5.below ((Below.refl _ _).drew)).below h2, (O5.drew.below h2).mono (by omega)⟩) ?_
                  intro a' w9 O9 ha
                  subst ha
                  simp only [Act.put, List.setIfInBounds_toArray, List.set_cons_zero, List.set_cons_succ]
                  clear CL O5 ss5 two hpq
                  obtain ⟨N, hN⟩ : ∃ N, S.length = N + 1 := ⟨S.length - 1, by have := O9.n0; omega⟩
                  have hNb : N + 1 ≤ 1400000000001 := by have := O9.n; omega
                  obtain ⟨x9, y9, E9, R9, hx9, hy9, two9, hpq9⟩ := O9.c.two (i := N) (by omega)
                  obtain ⟨ssb9, sc9, msb9, mc9, e91, e92, ss9⟩ := O9.ssf (i := N) (by omega) hx9 hy9
                  cases e91
                  cases e92
                  have HN9 := hidMk hN
                  have HO9 := hidMk O9
                  have HQ9 := hidMk hpq9
                  clear O9 two9 hN
                  go_upto_region 26 with fail
                  refine ply26 (m := S.length) (i := N) _ _ _ rfl rfl ⟨HN9.out, by omega⟩ ?_
                  intro a' wA hwA ha
                  subst ha
                  obtain rfl : wA = _ := hwA
                  simp only [Act.put, List.setIfInBounds_toArray, List.set_cons_zero, List.set_cons_succ]
                  go_upto_region 27 with fail
                  refine ply27 (m := S.length) (i := N) (p := ptrS x9) (q := ptrD y9) _ _ _ rfl rfl rfl rfl rfl (by rw [HN9.out]; omega) (by rw [HN9.out]; exact hNb) HQ9.out ss9.1 ss9.2.1 ?_
                  intro a' wB hwB ha
                  subst ha
                  obtain rfl : wB = _ := hwB
                  simp only [Act.put, List.setIfInBounds_toArray, List.set_cons_zero, List.set_cons_succ]
                  have HC9 := hidMk HO9.out.c.drew
                  clear HO9 HQ9 ss9 hx9 hy9
                  generalize World.drew _ = wC at *
                  go_wp2
                  have hq : ((i : Int) + 1) = ((i + 1 : Nat) : Int) := by omega
                  rw [hq]
                  refine ⟨⟨i + 1, _, _, rfl, rfl, rfl, hi, S, D, HC9.out⟩, ?_⟩
                  show n - ((i + 1 : Nat) : Int).toNat < n - (i : Int).toNat
                  omega
    · obtain rfl : n = i := by omega
      have hbel : Below w.heap.size w wr := by obtain ⟨tg, hp⟩ := hC.pl; exact hp.bel
      have hSn : S.length ≤ 1400000000001 := by have := hC.n; omega
      have hn0 := hC.n0
      obtain ⟨x0, y0, _, _, hx0, hy0, _, _⟩ := hC.two hn0
      obtain ⟨ssb, sc, msb, mc, e1, e2, _, _⟩ := hC.cells hn0 hx0 hy0
      subst e1 e2
      have st1 := hidMk hC
      clear hC hLn hbig hin hx0 hy0
      generalize wr = wx at *
      obtain ⟨m, hm⟩ : ∃ m, S.length = m := ⟨_, rfl⟩
      rw [hm] at hSn st1 ⊢
      have HM := hidMk hm
      clear hm hn0
      go_wp2
      go_loopw [10] (fun v10 wr => ∃ (k : Nat), v10 = .int .i64 (k : Int) ∧ k ≤ m ∧ Hid (PlC w.heap.size w n wr S D (.slice (some ⟨ssb, 0, none⟩) m sc) (.slice (some ⟨msb, 0, none⟩) m mc))) (fun v10 wr => m - (match v10 with | .int _ i => i.toNat | _ => 0))
      case atStart => exact ⟨0, rfl, Nat.zero_le _, st1⟩
      case round =>
        clear st1 hbel
        obtain ⟨k, rfl, hkm, hK⟩ := hrel
        by_cases hk : k < m
        · have hk' : k < S.length := by rw [HM.out]; exact hk
          obtain ⟨x, y, E, R, hx, hy, two, hpq⟩ := hK.out.two hk'
          obtain ⟨ssb2, sc2, msb2, mc2, e1, e2, c1, c2⟩ := hK.out.cells hk' hx hy
          rw [HM.out] at e1 e2
          cases e1
          cases e2
          have CL := lists_any (two.below ((Below.refl wr.heap.size wr).drew))
          go_upto_region 33 with fail
          refine ply33 (p := ptrS x) (q := ptrD y) (fun X => PlC w.heap.size w n X S D (.slice (some ⟨ssb, 0, none⟩) m sc) (.slice (some ⟨msb, 0, none⟩) m mc)) _ _ _ rfl rfl rfl rfl hk hSn ⟨c1, c2⟩ (CL.mono fun e w' ⟨h1, h2⟩ => ⟨h1, ⟨?_, ?_⟩, hK.out.drew.below h2⟩) ?_
          · exact (World.cell?_of_block (a := ⟨ssb, k, none⟩) (h2.block _ (block_lt_of_cell c1))).trans c1
          · exact (World.cell?_of_block (a := ⟨msb, k, none⟩) (h2.block _ (block_lt_of_cell c2))).trans c2
          intro a' w9 C9 ha
          subst ha
          simp only [Act.put, List.setIfInBounds_toArray, List.set_cons_zero, List.set_cons_succ]
          have HC9 := hidMk C9
          clear CL C9 c1 c2 two hpq hK hx hy
          go_wp2
          have hq : ((k : Int) + 1) = ((k + 1 : Nat) : Int) := by omega
          rw [hq]
          refine ⟨⟨k + 1, rfl, hk, HC9⟩, ?_⟩
          show m - ((k + 1 : Nat) : Int).toNat < m - (k : Int).toNat
          omega
        · obtain rfl : m = k := by omega
          have HBL : Hid (Below w.heap.size w wr) := by obtain ⟨tg, hp⟩ := hK.out.pl; exact hp.bel
          clear hkm hK
          go_wp2
          go_ret
          exact ⟨rfl, HBL.out⟩
end Go.Proofs.Ytpdepbakopdgpaa
