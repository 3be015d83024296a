import Derived.Test.YtlejbdepoemcjaaSqh
namespace Go.Proofs.Ytlejbdepoemcjaa
open Go.RowKit Sq
set_option linter.unusedVariables false
set_option linter.unusedSimpArgs false

section
variable {w : World} {s : Sx} {E : List Elt}
/-- An element's followers counted up, its spot put, its number noted. -/
theorem ins_end {w4 w5 : World} {k b : IdK} {b1 b2 : Nat} {v : Int} (h : SeqAt w4 s E) (hb1 : IdAt w4 b1 k) (hb2 : IdAt w4 b2 b) (n1 : b1 ∉ s.bl) (n2 : b2 ∉ s.bl) (hk : k.ok) (hb : b.ok) (hp : spotOf s b = 0 ∨ spotOf s b ∈ s.t.ids)
    (d : Did w4 s.sb 1 s.g s.cap (setFol s.L (spotOf s b) v) w5) (hl : s.L.length + 1 ≤ 1400000000000)
    (hlk : ∀ g' cap' L' t', Good L' t' → InsB s.t.ids t'.ids (spotOf s b) s.L.length → Kept (setFol s.L (spotOf s b) v ++ [⟨⟨k, b, 0⟩, true, 0, 0, 0, 0, 0⟩]) L' → Lk { s with g := g', cap := cap', L := L', t := t', N := M.put s.N k s.L.length } (putE E b ⟨k, b, true⟩)) :
    IS s b1 b2 k b w5.drew ∧ Calls Try.prog 35 #[.pointer (some ⟨s.sb, 1, none⟩), .int .i64 (spotOf s b : Int), KpV.v ⟨k, b, 0⟩] w5.drew fun e w' => e = .returned (.int .i64 (s.L.length : Int)) ∧ IS s b1 b2 k b w' ∧ ∃ y, (Instr.mapUpdate 84 (.map (some s.mb)) k.v (.int .i64 (s.L.length : Int))).run Try.prog w' = .ok () y ∧ ∃ s', Nxt s w4 s' (putE E b ⟨k, b, true⟩) y := by
  have nb : ∀ x, x ∉ s.bl → x ≠ s.sb ∧ x ≠ s.mb ∧ x ≠ s.g := fun x hx => by simpa [Sx.bl] using hx
  obtain ⟨p1, p2, p3⟩ := nb b1 n1
  obtain ⟨q1, q2, q3⟩ := nb b2 n2
  have l1 := hb1.lt
  have l2 := hb2.lt
  have lm := h.map.lt
  have ls := h.row.lt
  have sz : w5.heap.size = w4.heap.size := d.size
  have is5 : IS s b1 b2 k b w5.drew := ⟨(World.cell?_of_block (w := w4) (w' := w5) (a := ⟨s.sb, 0, none⟩) (d.tch.block s.sb ls.1 h.row.ne)).trans h.c0, (d.tch.block b1 l1 p3).trans hb1, (d.tch.block b2 l2 q3).trans hb2⟩
  have m5 : M.MapAt w5.drew s.mb IdK.v IdK.ok (entM s.N) := h.map.below (d.tch.block s.mb lm (fun e => h.nm.2 e.symm))
  refine ⟨is5, ?_⟩
  have rp := rput_any (k := ⟨k, b, 0⟩) d.at'.drew (h.lk.good.setFol (spotOf s b) v) hp ⟨hk, hb⟩ (by rw [setFol_len]; exact hl)
  rw [setFol_len] at rp
  refine rp.mono ?_
  rintro e w' ⟨rfl, g', cap', L', t', a1, a2, a3, mv⟩
  have sz6 : w5.heap.size ≤ w'.heap.size := mv.tch.size
  have keep : ∀ x, x < w5.heap.size → x ≠ s.g → x ≠ s.sb → w'.heap[x]? = w5.heap[x]? := fun x hx e1 e2 => mv.tch.block x hx (fun q => q.elim e1 e2)
  have is6 : IS s b1 b2 k b w' := ⟨(mv.oth 0 (by decide)).trans is5.1, (keep b1 (by omega) p3 p1).trans is5.2.1, (keep b2 (by omega) q3 q1).trans is5.2.2⟩
  have m6 : M.MapAt w' s.mb IdK.v IdK.ok (entM s.N) := m5.below (keep s.mb (by omega) (fun e => h.nm.2 e.symm) (fun e => h.nm.1 e.symm))
  obtain ⟨o, e1, m7⟩ := M.run_put (P := Try.prog) idKey Try.underlying84 m6 k hk (Value.int .i64 (s.L.length : Int))
  rw [put_entM] at m7
  have hgm : g' ≠ s.mb := by
    rcases mv.own with e | e
    · rw [e]; exact h.nm.2
    · have : w5.drew.heap.size = w5.heap.size := rfl
      omega
  refine ⟨rfl, is6, _, e1, { s with g := g', cap := cap', L := L', t := t', N := M.put s.N k s.L.length }, ?_, rfl, rfl, ?_, ?_⟩
  · refine ⟨(World.cell?_of_block (w := w') (a := ⟨s.sb, 0, none⟩) (M.setM_other o h.nm.1)).trans is6.1, mv.at'.keep (M.setM_other o h.nm.1) (M.setM_other o hgm), m7, ⟨h.nm.1, hgm⟩, hlk g' cap' L' t' a1 a2 a3⟩
  · rcases mv.own with e | e
    · exact .inl e
    · exact .inr (by have : w5.drew.heap.size = w5.heap.size := rfl; show w4.heap.size ≤ g'; omega)
  · have t1 : Tch (fun j => j ∈ s.bl) w4 w5.drew := (d.tch.mono (fun j _ q => by rw [q]; simp [Sx.bl])).drew
    have t2 : Tch (fun j => j ∈ s.bl) w4 w' := t1.trans' mv.tch (fun j _ q => by rcases q with q | q <;> rw [q] <;> simp [Sx.bl])
    exact t2.setM (.inr (by simp [Sx.bl])) o
set_option maxRecDepth 100000 in
set_option maxHeartbeats 4000000 in
theorem insert_any (h : SeqAt w s E) {k b : IdK} (hk : k.ok) (hb : b.ok) (hl : E.length + 2 ≤ 1400000000000) : Calls Try.prog 10 #[.pointer (some ⟨s.sb, 0, none⟩), k.v, b.v] w fun e w' => e = .returned (.int .i64 (insC E k b : Int)) ∧ ∃ s', Nxt s w s' (insR E k b) w' := by
  have HA : Hid (∀ W, SeqAt W s E → ∀ x : IdK, x.ok → Calls Try.prog 31 #[.pointer (some ⟨s.sb, 0, none⟩), x.v] W fun e w' => e = .returned (.bool (hasE E x)) ∧ Below W.heap.size W w') := fun W hW x hx => has_any hW hx
  obtain ⟨hx, hy, bx, zx⟩ := two_boxes w k b
  have HB := hidMk h.lt
  show Calls Try.prog 10 #[.pointer (some ⟨s.sb, 0, none⟩), .agg k.c.toArray, .agg b.c.toArray] w _
  go_enter Try.func10, Try.ntmps10
  go_upto_region 3 with fail
  generalize (w.alloc (.cells k.c.toArray 32)).alloc (.cells b.c.toArray 32) = wx at *
  have ZX := hidMk zx
  clear zx
  have h1 := h.below bx
  cases hn : decide (k.n < 1) with
  | true =>
    have HN := hidMk (of_decide_eq_true hn)
    refine ins3 (k := k) (r := true) _ _ _ rfl rfl hk hx hn ?_
    intro a' w1 hw ha
    subst ha
    obtain rfl : w1 = wx := hw
    simp only [Act.put, List.setIfInBounds_toArray, List.set_cons_zero, List.set_cons_succ]
    clear hn
    go_wp2
    go_ret
    have e : insC E k b = 2 := by unfold insC; rw [if_pos HN.out]
    exact ⟨by rw [e]; rfl, s, by unfold insR; rw [e]; exact Nxt.same h bx⟩
  | false =>
    have HN := hidMk (of_decide_eq_false hn)
    refine ins3 (k := k) (r := false) _ _ _ rfl rfl hk hx hn ?_
    intro a' w1 hw ha
    subst ha
    obtain rfl : w1 = wx := hw
    simp only [Act.put, List.setIfInBounds_toArray, List.set_cons_zero, List.set_cons_succ]
    clear hn
    go_upto_region 5 with fail
    refine ins5 (k := k) (r := hasE E k) _ _ _ rfl rfl rfl hk hx (HA.out _ h1 k hk) ?_
    intro a' w2 hw2 ha
    subst ha
    simp only [Act.put, List.setIfInBounds_toArray, List.set_cons_zero, List.set_cons_succ]
    have h2 := h1.below hw2
    have hx2 := hx.below hw2
    have hy2 := hy.below hw2
    have b2 := bx.trans (hw2.mono bx.size)
    clear hx hy h1 hw2
    cases hq : hasE E k with
    | true =>
      have HQ := hidMk hq
      clear hq
      go_wp2
      go_ret
      have e : insC E k b = 5 := by unfold insC; rw [if_neg (by have := HN.out; omega), if_pos HQ.out]
      exact ⟨by rw [e]; rfl, s, by unfold insR; rw [e]; exact Nxt.same h b2⟩
    | false =>
      have HQ := hidMk hq
      clear hq
      go_upto_region 7 with fail
      have fin : ∀ (w3 : World), Below w.heap.size w w3 → SeqAt w3 s E → IdAt w3 w.heap.size k → IdAt w3 (w.heap.size + 1) b → (b = zId ∨ hasE E b = true) → ∃ w5 v, (Instr.storeAt 3 (.pointer (some ⟨s.g, 73 * spotOf s b + 0 + 66, none⟩)) (.int .i64 ((gt s.L (spotOf s b)).kp.fol + 1))).run Try.prog w3 = .ok () w5 ∧ spotOf s b < s.L.length ∧ (-9223372036854775808 ≤ (gt s.L (spotOf s b)).kp.fol + 1 ∧ (gt s.L (spotOf s b)).kp.fol + 1 ≤ 9223372036854775807) ∧
          IS s w.heap.size (w.heap.size + 1) k b w5.drew ∧ Calls Try.prog 35 #[.pointer (some ⟨s.sb, 1, none⟩), .int .i64 (spotOf s b : Int), KpV.v ⟨k, b, 0⟩] w5.drew fun e w' => e = .returned (.int .i64 (v : Nat)) ∧ IS s w.heap.size (w.heap.size + 1) k b w' ∧ ∃ y, (Instr.mapUpdate 84 (.map (some s.mb)) k.v (.int .i64 (v : Nat))).run Try.prog w' = .ok () y ∧ ∃ s', Nxt s w s' (insR E k b) y := by
        intro w3 b3 h3 i1 i2 hbb
        have hp := (h.lk.spotIs hbb).1
        have hpl : spotOf s b < s.L.length := by
          rcases hp with e | e
          · rw [e]; exact h.lk.good.pos
          · exact (h.lk.good.lt e).2
        obtain ⟨w5, e5, d5⟩ := st_fol h3.row hpl ((gt s.L (spotOf s b)).kp.fol + 1)
        have hfol := h.lk.fol (spotOf s b) hp
        have hfl := folE_le E (gt s.L (spotOf s b)).kp.id
        have hlen := h.lk.len
        have e : insC E k b = 0 := by
          unfold insC
          rw [if_neg (by have := HN.out; omega), if_neg (by rw [HQ.out]; decide), if_neg (fun q => by rcases hbb with r | r; exact q.1 r; rw [r] at q; cases q.2)]
        have he := ins_end (k := k) (b := b) (v := (gt s.L (spotOf s b)).kp.fol + 1) h3 i1 i2 (fun q => by have := HB.out _ q; omega) (fun q => by have := HB.out _ q; omega) hk hb hp d5 (by omega)
          (fun g' cap' L' t' a1 a2 a3 => h.lk.put h.keys ⟨hk, by have := HN.out; omega⟩ hb HQ.out hbb a1 a2 a3)
        refine ⟨w5, s.L.length, e5, hpl, by omega, he.1, he.2.mono ?_⟩
        rintro e' w' ⟨r1, r2, y, r3, s', nx⟩
        refine ⟨r1, r2, y, r3, s', ?_⟩
        unfold insR
        rw [if_pos e]
        exact ⟨nx.at', nx.sb, nx.mb, nx.own.imp id (fun q => Nat.le_trans b3.size q), (tch_below b3 _).trans nx.tch⟩
      have FIN := hidMk fin
      clear fin
      cases hz : (!decide (b = zId)) with
      | true =>
        have HZ := hidMk (show b ≠ zId by simpa using hz)
        refine ins7a (k := b) (r := hasE E b) _ _ _ rfl rfl rfl hb hy2 hz (HA.out _ h2 b hb) ?_
        intro a' w3 hw3 ha
        subst ha
        simp only [Act.put, List.setIfInBounds_toArray, List.set_cons_zero, List.set_cons_succ]
        have h3 := h2.below hw3
        have hx3 := hx2.below hw3
        have hy3 := hy2.below hw3
        have b3 := b2.trans (hw3.mono b2.size)
        clear hx2 hy2 h2 hw3 b2 HA hz
        cases hq2 : hasE E b with
        | false =>
          have HQ2 := hidMk hq2
          clear hq2
          go_wp2
          go_ret
          have e : insC E k b = 4 := by unfold insC; rw [if_neg (by have := HN.out; omega), if_neg (by rw [HQ.out]; decide), if_pos ⟨HZ.out, HQ2.out⟩]
          exact ⟨by rw [e]; rfl, s, by unfold insR; rw [e]; exact Nxt.same h b3⟩
        | true =>
          have HQ2 := hidMk hq2
          clear hq2
          go_upto_region 9 with fail
          refine ins9 (E := E) (k := b) _ _ _ rfl rfl rfl h3 hb hy3 rfl ?_
          intro a' w4 hw4 ha
          subst ha
          obtain rfl : w4 = w3.drew := hw4
          simp only [Act.put, List.setIfInBounds_toArray, List.set_cons_zero, List.set_cons_succ]
          obtain ⟨w5, v, e5, hpl, hf5, is5, cp5⟩ := FIN.out w3.drew b3.drew h3.drew hx3 hy3 (.inr HQ2.out)
          have IS5 := hidMk is5
          have CP5 := hidMk cp5
          have E0 := hidMk (show insC E k b = 0 by
            unfold insC
            rw [if_neg (by have := HN.out; omega), if_neg (by rw [HQ.out]; decide), if_neg (fun q => by rw [HQ2.out] at q; cases q.2)])
          clear is5 cp5 FIN
          go_upto_region 10 with fail
          refine ins10 (E := E) _ _ _ rfl rfl rfl h3.drew hpl hf5 (element_any h3.drew.row hpl) e5 ?_
          intro a' w6 hw6 ha
          subst ha
          obtain rfl : w6 = w5 := hw6
          simp only [Act.put, List.setIfInBounds_toArray, List.set_cons_zero, List.set_cons_succ]
          clear hf5 e5
          go_upto_region 11 with fail
          refine ins11 (k := k) (q := b) (fun y => ∃ s', Nxt s w s' (insR E k b) y) _ _ _ rfl rfl rfl rfl rfl hk hb IS5.out CP5.out ?_
          intro a' w7 hw7 ha
          subst ha
          have HW7 := hidMk hw7
          clear hw7 IS5 CP5 h3 hx3 hy3
          simp only [Act.put, List.setIfInBounds_toArray, List.set_cons_zero, List.set_cons_succ]
          go_wp2
          go_ret
          exact ⟨by rw [E0.out]; rfl, HW7.out⟩
      | false =>
        have HZ := hidMk (show b = zId by simpa using hz)
        refine ins7b (k := b) _ _ _ rfl rfl rfl hb hy2 hz ?_
        intro a' w3 hw3 ha
        subst ha
        obtain rfl : w3 = w2 := hw3
        simp only [Act.put, List.setIfInBounds_toArray, List.set_cons_zero, List.set_cons_succ]
        clear HA hz
        go_upto_region 9 with fail
        refine ins9 (E := E) (k := b) _ _ _ rfl rfl rfl h2 hb hy2 rfl ?_
        intro a' w4 hw4 ha
        subst ha
        obtain rfl : w4 = w3.drew := hw4
        simp only [Act.put, List.setIfInBounds_toArray, List.set_cons_zero, List.set_cons_succ]
        obtain ⟨w5, v, e5, hpl, hf5, is5, cp5⟩ := FIN.out w3.drew b2.drew h2.drew hx2 hy2 (.inl HZ.out)
        have IS5 := hidMk is5
        have CP5 := hidMk cp5
        have E0 := hidMk (show insC E k b = 0 by
          unfold insC
          rw [if_neg (by have := HN.out; omega), if_neg (by rw [HQ.out]; decide), if_neg (fun q => q.1 HZ.out)])
        clear is5 cp5 FIN
        go_upto_region 10 with fail
        refine ins10 (E := E) _ _ _ rfl rfl rfl h2.drew hpl hf5 (element_any h2.drew.row hpl) e5 ?_
        intro a' w6 hw6 ha
        subst ha
        obtain rfl : w6 = w5 := hw6
        simp only [Act.put, List.setIfInBounds_toArray, List.set_cons_zero, List.set_cons_succ]
        clear hf5 e5
        go_upto_region 11 with fail
        refine ins11 (k := k) (q := b) (fun y => ∃ s', Nxt s w s' (insR E k b) y) _ _ _ rfl rfl rfl rfl rfl hk hb IS5.out CP5.out ?_
        intro a' w7 hw7 ha
        subst ha
        have HW7 := hidMk hw7
        clear hw7 IS5 CP5 h2 hx2 hy2
        simp only [Act.put, List.setIfInBounds_toArray, List.set_cons_zero, List.set_cons_succ]
        go_wp2
        go_ret
        exact ⟨by rw [E0.out]; rfl, HW7.out⟩
end
end Go.Proofs.Ytlejbdepoemcjaa
