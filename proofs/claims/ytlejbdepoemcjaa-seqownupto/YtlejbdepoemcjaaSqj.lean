import Derived.Test.YtlejbdepoemcjaaSqi
namespace Go.Proofs.Ytlejbdepoemcjaa
open Go.RowKit Sq
set_option linter.unusedVariables false
set_option linter.unusedSimpArgs false

section
variable {w : World} {s : Sx} {E : List Elt}
/-- A spot taken out, its number forgotten, the number of what came to it noted. -/
theorem tak_end {w4 w5 : World} {k : IdK} {b1 i j n : Nat} {v : Int} (h : SeqAt w4 s E) (hb1 : IdAt w4 b1 k) (n1 : b1 ∉ s.bl) (hk : k.ok) (hi : i ∈ s.t.ids) (hn : s.L.length = n + 1)
    (d : Did w4 s.sb 1 s.g s.cap (setFol s.L j v) w5)
    (hlk : ∀ L' t', Outs (setFol s.L j v) s.t i n L' t' → Lk { s with L := L', t := t', N := if i < n then M.put (M.del s.N k) (gt L' i).kp.id i else M.del s.N k } (remE E k)) :
    Calls Try.prog 37 #[.pointer (some ⟨s.sb, 1, none⟩), .int .i64 (i : Int)] w5 fun e w' => e = .returned (.tuple #[]) ∧ w'.cell? ⟨s.sb, 0, none⟩ = some (.map (some s.mb)) ∧ IdAt w' b1 k ∧ ∃ y, (Builtin.delete_ #[84, 32] 0 #[.map (some s.mb), k.v]).run Try.prog w'.drew = .ok (.tuple #[]) y ∧
      Calls Try.prog 38 #[.pointer (some ⟨s.sb, 0, none⟩), .int .i64 (i : Int)] y fun e w2 => e = .returned (.tuple #[]) ∧ ∃ s', Nxt s w4 s' (remE E k) w2 := by
  have nb : ∀ x, x ∉ s.bl → x ≠ s.sb ∧ x ≠ s.mb ∧ x ≠ s.g := fun x hx => by simpa [Sx.bl] using hx
  obtain ⟨p1, p2, p3⟩ := nb b1 n1
  have l1 := hb1.lt
  have lm := h.map.lt
  have ls := h.row.lt
  have sz : w5.heap.size = w4.heap.size := d.size
  have c5 : w5.cell? ⟨s.sb, 0, none⟩ = some (.map (some s.mb)) := (World.cell?_of_block (w := w4) (w' := w5) (a := ⟨s.sb, 0, none⟩) (d.tch.block s.sb ls.1 h.row.ne)).trans h.c0
  have i5 : IdAt w5 b1 k := (d.tch.block b1 l1 p3).trans hb1
  have m5 : M.MapAt w5 s.mb IdK.v IdK.ok (entM s.N) := h.map.below (d.tch.block s.mb lm (fun e => h.nm.2 e.symm))
  refine (rtake_any (n := n) d.at' (h.lk.good.setFol j v) hi (by rw [setFol_len]; exact hn)).mono ?_
  rintro e w' ⟨rfl, L', t', o, mv⟩
  have sz6 : w5.heap.size ≤ w'.heap.size := mv.tch.size
  have keep : ∀ x, x < w5.heap.size → x ≠ s.g → x ≠ s.sb → w'.heap[x]? = w5.heap[x]? := fun x hx e1 e2 => mv.tch.block x hx (fun q => q.elim e1 e2)
  have c6 := (mv.oth 0 (by decide)).trans c5
  have m6 : M.MapAt w'.drew s.mb IdK.v IdK.ok (entM s.N) := m5.below (keep s.mb (by omega) (fun e => h.nm.2 e.symm) (fun e => h.nm.1 e.symm))
  obtain ⟨ob, e1, m7⟩ := M.run_del (P := Try.prog) (ty := 0) idKey Try.underlying84 m6 k hk
  rw [del_entM] at m7
  refine ⟨rfl, c6, (keep b1 (by omega) p3 p1).trans i5, _, e1, ?_⟩
  have r7 : SqAt (M.setM w'.drew s.mb ob) s.sb 1 s.g s.cap L' := mv.at'.keep (M.setM_other ob h.nm.1) (M.setM_other ob h.nm.2)
  have c7 : (M.setM w'.drew s.mb ob).cell? ⟨s.sb, 0, none⟩ = some (.map (some s.mb)) := (World.cell?_of_block (w := w') (a := ⟨s.sb, 0, none⟩) (M.setM_other ob h.nm.1)).trans c6
  refine (follow_any (s := { s with L := L', t := t' }) (i := i) r7 c7 m7).mono ?_
  rintro e w2 ⟨rfl, m8, t8⟩
  refine ⟨rfl, { s with L := L', t := t', N := if i < n then M.put (M.del s.N k) (gt L' i).kp.id i else M.del s.N k }, ?_, rfl, rfl, .inl rfl, ?_⟩
  · refine ⟨?_, ?_, ?_, h.nm, hlk L' t' o⟩
    · exact (World.cell?_of_block (w := M.setM w'.drew s.mb ob) (a := ⟨s.sb, 0, none⟩) (t8.block s.sb r7.lt.1 h.nm.1)).trans c7
    · exact r7.keep (t8.block s.sb r7.lt.1 h.nm.1) (t8.block s.g r7.lt.2 h.nm.2)
    · have : L'.length = n := o.2.1
      rw [show ({ s with L := L', t := t' } : Sx).L.length = n from this] at m8
      exact m8
  · have t1 : Tch (fun j => j ∈ s.bl) w4 w5 := d.tch.mono (fun j _ q => by rw [q]; simp [Sx.bl])
    have t2 : Tch (fun j => j ∈ s.bl) w4 w' := t1.trans' mv.tch (fun j _ q => by rcases q with q | q <;> rw [q] <;> simp [Sx.bl])
    have t3 : Tch (fun j => j ∈ s.bl) w4 (M.setM w'.drew s.mb ob) := (t2.drew).setM (.inr (by simp [Sx.bl])) ob
    exact t3.trans' t8 (fun j _ q => by rw [q]; simp [Sx.bl])
set_option maxRecDepth 100000 in
set_option maxHeartbeats 4000000 in
theorem take_any (h : SeqAt w s E) {k : IdK} (hk : k.ok) : Calls Try.prog 12 #[.pointer (some ⟨s.sb, 0, none⟩), k.v] w fun e w' => e = .returned (.int .i64 (takC E k : Int)) ∧ ∃ s', Nxt s w s' (takR E k) w' := by
  have HA : Hid (∀ W, SeqAt W s E → Calls Try.prog 31 #[.pointer (some ⟨s.sb, 0, none⟩), k.v] W fun e w' => e = .returned (.bool (hasE E k)) ∧ Below W.heap.size W w') := fun W hW => has_any hW hk
  have bx : Below w.heap.size w (w.alloc (.cells k.c.toArray 32)) := (Below.refl _ _).alloc (Nat.le_refl _) _
  have hx := id_new w k
  have HB := hidMk h.lt
  show Calls Try.prog 12 #[.pointer (some ⟨s.sb, 0, none⟩), .agg k.c.toArray] w _
  go_enter Try.func12, Try.ntmps12
  go_upto_region 3 with fail
  generalize w.alloc (.cells k.c.toArray 32) = wx at *
  have h1 := h.below bx
  refine tak3 (k := k) (r := hasE E k) _ _ _ rfl rfl rfl hk hx (HA.out _ h1) ?_
  intro a' w2 hw2 ha
  subst ha
  simp only [Act.put, List.setIfInBounds_toArray, List.set_cons_zero, List.set_cons_succ]
  have h2 := h1.below hw2
  have hx2 := hx.below hw2
  have b2 := bx.trans (hw2.mono bx.size)
  clear hx h1 hw2 HA
  cases hq : hasE E k with
  | false =>
    have HQ := hidMk hq
    clear hq
    go_wp2
    go_ret
    have e : takC E k = 4 := by unfold takC; rw [if_pos HQ.out]
    exact ⟨by rw [e]; rfl, s, by unfold takR; rw [e]; exact Nxt.same h b2⟩
  | true =>
    have HQ := hidMk hq
    obtain ⟨hs1, hs2⟩ := h.lk.spot hq
    have hil := (h.lk.good.lt hs1).2
    have hfi := h.lk.fol (spotOf s k) (.inr hs1)
    rw [hs2] at hfi
    obtain ⟨i, hi⟩ : ∃ i, spotOf s k = i := ⟨_, rfl⟩
    have HI := hidMk hi
    rw [hi] at hs1 hs2 hil hfi
    clear hq
    go_upto_region 5 with fail
    refine tak5 (E := E) (k := k) (i := i) (r := decide (0 < folE E k)) _ _ _ rfl rfl rfl h2 hk hx2 hi hil (by rw [hfi]; congr 1; exact propext ⟨fun q => by omega, fun q => by omega⟩) (element_any h2.drew.row hil) ?_
    intro a' w3 hw3 ha
    subst ha
    obtain rfl : w3 = w2.drew := hw3
    simp only [Act.put, List.setIfInBounds_toArray, List.set_cons_zero, List.set_cons_succ]
    clear hi
    cases hf : decide (0 < folE E k) with
    | true =>
      have HF := hidMk (of_decide_eq_true hf)
      clear hf
      go_wp2
      go_ret
      have e : takC E k = 90 := by unfold takC; rw [if_neg (by rw [HQ.out]; decide), if_pos HF.out]
      exact ⟨by rw [e]; rfl, s, by unfold takR; rw [e]; exact Nxt.same h b2.drew⟩
    | false =>
      have hf0 : folE E k = 0 := by have := of_decide_eq_false hf; omega
      have E0 := hidMk (show takC E k = 0 by unfold takC; rw [if_neg (by rw [HQ.out]; decide), if_neg (by omega)])
      clear hf
      go_upto_region 7 with fail
      refine tak7 (E := E) (k := k) (i := i) _ _ _ rfl rfl rfl h2.drew hk hx2 HI.out ?_
      intro a' w4 hw4 ha
      subst ha
      obtain rfl : w4 = w2.drew.drew := hw4
      simp only [Act.put, List.setIfInBounds_toArray, List.set_cons_zero, List.set_cons_succ]
      have hbh : (gt s.L i).kp.bh = zId ∨ hasE E (gt s.L i).kp.bh = true := h.lk.ok.bh (eltAt s.L i) (by rw [h.lk.e, elts]; exact List.mem_map.2 ⟨i, hs1, rfl⟩)
      have hj1 := (h.lk.spotIs hbh).1
      obtain ⟨j, hj⟩ : ∃ j, spotOf s (gt s.L i).kp.bh = j := ⟨_, rfl⟩
      rw [hj] at hj1
      have hjl : j < s.L.length := by
        rcases hj1 with e | e
        · rw [e]; exact h.lk.good.pos
        · exact (h.lk.good.lt e).2
      have hfj := h.lk.fol j hj1
      have hfl := folE_le E (gt s.L j).kp.id
      have hlen := h.lk.len
      have hll := h.row.len
      obtain ⟨n, hn⟩ : ∃ n, s.L.length = n + 1 := ⟨s.L.length - 1, by omega⟩
      have h5 := h2.drew.drew.drew
      obtain ⟨w5, e5, d5⟩ := st_fol h5.row hjl ((gt s.L j).kp.fol - 1)
      have hte := tak_end (k := k) (b1 := w.heap.size) (n := n) (j := j) (i := i) h5 (show IdAt w2.drew.drew.drew w.heap.size k from hx2) (fun q => by have := HB.out _ q; omega) hk hs1 hn d5 (fun L' t' o => h.lk.take h.keys HQ.out hf0 HI.out hj hn o)
      have lj := look_spot h5 (gt s.L i).kp.bh (h.row.ok.gt hil).bh
      rw [hj] at lj
      have TE := hidMk hte
      have HF5 := hidMk (show -9223372036854775808 ≤ (gt s.L j).kp.fol - 1 ∧ (gt s.L j).kp.fol - 1 ≤ 9223372036854775807 by omega)
      clear hte hfj hfl hlen hll hn hf0 hfi hj1 hbh hj
      go_upto_region 8 with fail
      refine tak8 (E := E) (i := i) (j := j) _ _ _ rfl rfl rfl h2.drew.drew hil hjl lj HF5.out (element_any h5.row hil) (element_any h5.row hjl) e5 ?_
      intro a' w6 hw6 ha
      subst ha
      obtain rfl : w6 = w5 := hw6
      simp only [Act.put, List.setIfInBounds_toArray, List.set_cons_zero, List.set_cons_succ]
      clear lj e5 HF5
      go_upto_region 9 with fail
      refine tak9 (s := s) (i := i) _ _ _ _ rfl rfl rfl TE.out ?_
      rintro a' w7 ⟨c7, i7, y, ed, cf⟩ ha
      subst ha
      simp only [Act.put, List.setIfInBounds_toArray, List.set_cons_zero, List.set_cons_succ]
      have CF := hidMk cf
      clear cf TE
      go_upto_region 10 with fail
      refine tak10 (k := k) _ _ _ rfl rfl rfl c7 hk i7 ed ?_
      intro a' w8 hw8 ha
      subst ha
      obtain rfl : w8 = y := hw8
      simp only [Act.put, List.setIfInBounds_toArray, List.set_cons_zero, List.set_cons_succ]
      clear c7 i7 ed
      go_upto_region 11 with fail
      refine tak11 (s := s) (i := i) _ _ _ _ rfl rfl rfl CF.out ?_
      rintro a' w9 ⟨s', nx⟩ ha
      subst ha
      simp only [Act.put, List.setIfInBounds_toArray, List.set_cons_zero, List.set_cons_succ]
      have NX := hidMk (show ∃ s', Nxt s w s' (takR E k) w9 from ⟨s', by
        unfold takR
        rw [if_pos E0.out]
        have b4 : Below w.heap.size w w2.drew.drew.drew := b2.drew.drew.drew
        exact ⟨nx.at', nx.sb, nx.mb, nx.own.imp id (fun q => Nat.le_trans b4.size q), (tch_below b4 _).trans nx.tch⟩⟩)
      clear nx CF h5 d5
      go_wp2
      go_ret
      exact ⟨by rw [E0.out]; rfl, NX.out⟩
end
end Go.Proofs.Ytlejbdepoemcjaa
