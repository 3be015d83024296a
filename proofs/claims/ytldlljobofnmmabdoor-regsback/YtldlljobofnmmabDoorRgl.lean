import Derived.Test.YtldlljobofnmmabDoorRgk
namespace Go.Proofs.YtldlljobofnmmabDoor
open Go.RowKit
set_option linter.unusedVariables false
set_option linter.unusedSimpArgs false

theorem pl_eq {p : PlK} {o : IdK} {k : ByteArray} : (⟨o, k, zId⟩ : PlK) = p ↔ (p.a = zId ∧ o = p.o ∧ k = p.k) := by
  obtain ⟨po, pk, pa⟩ := p
  simp only [PlK.mk.injEq]
  constructor
  · rintro ⟨rfl, rfl, rfl⟩; exact ⟨rfl, rfl, rfl⟩
  · rintro ⟨rfl, rfl, rfl⟩; exact ⟨rfl, rfl, rfl⟩
/-- What lay leaves. -/
structure LNxt (w : World) (base : Nat) (s : Rs) (p : PlK) (v : Value) (L : List EnV) (s' : Rs) (w' : World) : Prop where
  mem : RgM w' base s'
  key : KeysOk s'.K s'.P
  r : s'.r = s.r
  bp : s'.bp = s.bp
  bk : s'.bk = s.bk
  la : s'.last = s.last
  li : ∀ q, liOf s'.P q = if q = p then L else liOf s.P q
  fr : ∀ q ∈ s'.P, q = (p, (v, L)) ∨ (q ∈ s.P ∧ q.1 ≠ p)
  bl : ∀ j ∈ s'.bl, j ∈ s.bl ∨ w.heap.size ≤ j
  tch : Tch (fun j => j ∈ s.bl) w w'
set_option maxRecDepth 100000 in
set_option maxHeartbeats 4000000 in
/-- lay makes these all that lies at a place. -/
theorem lay_any {w : World} {base : Nat} {s : Rs} (h : RgM w base s) (hko : KeysOk s.K s.P) (hb : base ≤ w.heap.size) {p : PlK} (hp : p.ok) {v : Value} {L : List EnV} (hv : RN.Lo w base v L) (ok : ∀ x ∈ L, x.ok) (hap : ∀ q ∈ s.P, q.1 ≠ p → q.2.1.ownBlock ≠ v.ownBlock) :
    Calls Tryd.prog 28 #[.pointer (some ⟨s.r, 0, none⟩), p.v, v] w fun e w' => e = .returned (.tuple #[]) ∧ ∃ s', LNxt w base s p v L s' w' := by
  have hpl := h.places
  have b1 : Below w.heap.size w (w.alloc (.cells p.c.toArray 34)) := (Below.refl _ _).alloc (Nat.le_refl _) _
  have bx1 : (w.alloc (.cells p.c.toArray 34)).rangeAt w.heap.size 0 p.c := range_box w p.c _
  have z1 : (w.alloc (.cells p.c.toArray 34)).heap.size = w.heap.size + 1 := by simp
  obtain ⟨w1, hw1⟩ : ∃ w1, w.alloc (.cells p.c.toArray 34) = w1 := ⟨_, rfl⟩
  have EB := hidMk (show (Instr.box 34 p.v).run Tryd.prog w = .ok (.pointer (some ⟨w.heap.size, 0, none⟩)) w1 by rw [run_box, ← hw1]; rfl)
  rw [hw1] at b1 bx1 z1
  clear hw1
  have h1 := h.below b1
  have rs1 : RS s.r s.bp s.bk w.heap.size p w1 := ⟨h1.c0, h1.c1, bx1⟩
  have hd := h1.below (Below.refl w1.heap.size w1).drew
  have rsd := rs1.drew
  have lbp : s.bp < w.heap.size := h.lt s.bp (by simp [Rs.bl])
  have lr : s.r < w.heap.size := h.lt s.r (by simp [Rs.bl])
  have T1 : Tch (fun j => j ∈ s.bl) w w1.drew := tch_of (b1.drew) _
  obtain ⟨a, c, ev, hat, hc, hcm, _⟩ := hv.open RN_is ok
  by_cases hL : L = []
  · subst hL
    obtain ⟨ob, ed, hm⟩ := M.run_del (ty := 0) plKey Tryd.underlying66 hd.pl p hp
    have edt : ∀ ty, (Builtin.delete_ #[66, 34] ty #[.map (some s.bp), p.v]).run Tryd.prog w1.drew = .ok (.tuple #[]) (M.setM w1.drew s.bp ob) := fun ty => ed
    have h2 : RgM (M.setM w1.drew s.bp ob) base { s with P := M.del s.P p } := hd.delP (fun j hj => M.setM_other ob hj) hm
    have t2 : Tch (fun j => j ∈ s.bl) w (M.setM w1.drew s.bp ob) := T1.trans' (setM_tch _ _ _) (fun j _ e => by rw [e]; simp [Rs.bl])
    have z2 : (M.setM w1.drew s.bp ob).heap.size = w1.heap.size := M.setM_size _ _ _
    have rs2 : RS s.r s.bp s.bk w.heap.size p (M.setM w1.drew s.bp ob) := ⟨h2.c0, h2.c1, rangeAt_keep rsd.pl (M.setM_other ob (by omega))⟩
    obtain ⟨w2, hw2⟩ : ∃ w2, M.setM w1.drew s.bp ob = w2 := ⟨_, rfl⟩
    rw [hw2] at edt h2 t2 z2 rs2
    have CF := hidMk (forget_any (w := w2) (base := base) (s := { s with P := M.del s.P p }) h2 (by omega) hko.full hp)
    have NX : Hid (∀ w', KNxt w2 base { s with P := M.del s.P p } (KLess s.K p) w' → ∃ s', LNxt w base s p v [] s' w') := by
      rintro w' ⟨⟨K', m', f', k', b'⟩, t'⟩
      refine ⟨{ s with P := M.del s.P p, K := K' }, m', ⟨f' hko.full, fun o k => ?_⟩, rfl, rfl, rfl, rfl, fun q => ?_, fun q hq => ?_, fun j hj => ?_, t2.trans' t' (fun j _ q => q)⟩
      · show KHas K' o k ↔ (M.look (M.del s.P p) ⟨o, k, zId⟩).isSome = true
        rw [k', M.del_look _ _ hpl]
        unfold KLess
        rw [hko.mem, ← pl_eq (p := p)]
        by_cases e : (⟨o, k, zId⟩ : PlK) = p
        · simp [e]
        · simp [e]
      · show liOf (M.del s.P p) q = _
        unfold liOf
        rw [M.del_look _ _ hpl]
        by_cases e : q = p
        · simp [e]
        · simp [e]
      · exact .inr ((del_memG hpl).1 hq)
      · rcases List.mem_cons.1 hj with rfl | hj
        · exact .inl (by simp [Rs.bl])
        rcases List.mem_cons.1 hj with rfl | hj
        · exact .inl (by simp [Rs.bl])
        rcases List.mem_cons.1 hj with rfl | hj
        · exact .inl (by simp [Rs.bl])
        · rcases b' j hj with q | q
          · exact .inl q
          · exact .inr (by omega)
    have ED := hidMk edt
    have ev2 : v = .slice a 0 c := ev
    have EV := hidMk ev2
    clear edt ed hm h2 t2 hd h h1 hko hap hv ok hat hc hcm ev ev2 T1 hpl hw2
    rw [EV.out]
    go_enter Tryd.func28, Tryd.ntmps28
    go_upto_region 2 with (first
      | (refine wpList_run rfl (exec_boxE (t := 34) (v := p.v) (u := .pointer (some ⟨w.heap.size, 0, none⟩)) (w2 := w1) rfl rfl EB.out) ?_)
      | fail)
    refine lay2 (rb := s.r) (mb := s.bp) (kb := s.bk) (pb := w.heap.size) (p := p) (w2 := w2) _ w1 _ rfl rfl rfl hp rsd (ED.out _) ?_
    intro a' w' hw' ha
    subst ha
    obtain rfl : w2 = w' := hw'.symm
    simp only [Act.put, List.setIfInBounds_toArray, List.set_cons_zero, List.set_cons_succ]
    go_upto_region 3 with fail
    refine lay3 (rb := s.r) (mb := s.bp) (kb := s.bk) (pb := w.heap.size) (p := p) (fun w' => KNxt w2 base { s with P := M.del s.P p } (KLess s.K p) w') _ w2 _ rfl rfl rfl hp rs2 CF.out ?_
    intro a' w' hw' ha
    subst ha
    simp only [Act.put, List.setIfInBounds_toArray, List.set_cons_zero, List.set_cons_succ]
    have FN := hidMk (NX.out w' hw')
    clear NX CF hw'
    go_wp2
    refine bodyPost_ret (results_none rfl _ _ _) rfl ?_
    rw [← EV.out]
    exact ⟨rfl, FN.out⟩
  · obtain ⟨ob, eu, hm⟩ := M.run_put plKey Tryd.underlying66 hd.pl p hp v
    have hv2 : RN.Lo (M.setM w1.drew s.bp ob) base v L := (hv.below b1.drew).keep (fun k hk => M.setM_other ob (fun e => by
      obtain ⟨_, cc, hcc⟩ := hv.cells hk
      obtain ⟨⟨es, cl, q1, _⟩, _⟩ := h.pl
      rw [e] at hcc
      rw [hcc] at q1
      cases q1))
    have h2 : RgM (M.setM w1.drew s.bp ob) base { s with P := M.put s.P p (v, L) } := hd.setP (fun j hj => M.setM_other ob hj) hm hv2 hL ok hap
    have t2 : Tch (fun j => j ∈ s.bl) w (M.setM w1.drew s.bp ob) := T1.trans' (setM_tch _ _ _) (fun j _ e => by rw [e]; simp [Rs.bl])
    have z2 : (M.setM w1.drew s.bp ob).heap.size = w1.heap.size := M.setM_size _ _ _
    have rs2 : RS s.r s.bp s.bk w.heap.size p (M.setM w1.drew s.bp ob) := ⟨h2.c0, h2.c1, rangeAt_keep rsd.pl (M.setM_other ob (by omega))⟩
    obtain ⟨w2, hw2⟩ : ∃ w2, M.setM w1.drew s.bp ob = w2 := ⟨_, rfl⟩
    rw [hw2] at eu h2 t2 z2 rs2
    have CF := hidMk (note_any (w := w2) (base := base) (s := { s with P := M.put s.P p (v, L) }) h2 (by omega) hp)
    have NX : Hid (∀ w', KNxt w2 base { s with P := M.put s.P p (v, L) } (KMore s.K p) w' → ∃ s', LNxt w base s p v L s' w') := by
      rintro w' ⟨⟨K', m', f', k', b'⟩, t'⟩
      refine ⟨{ s with P := M.put s.P p (v, L), K := K' }, m', ⟨f' hko.full, fun o k => ?_⟩, rfl, rfl, rfl, rfl, fun q => ?_, fun q hq => ?_, fun j hj => ?_, t2.trans' t' (fun j _ q => q)⟩
      · show KHas K' o k ↔ (M.look (M.put s.P p (v, L)) ⟨o, k, zId⟩).isSome = true
        rw [k', M.put_look _ _ _ hpl]
        unfold KMore
        rw [hko.mem, ← pl_eq (p := p)]
        by_cases e : (⟨o, k, zId⟩ : PlK) = p
        · simp [e]
        · simp [e]
      · show liOf (M.put s.P p (v, L)) q = _
        unfold liOf
        rw [M.put_look _ _ _ hpl]
        by_cases e : q = p
        · simp [e]
        · simp [e]
      · exact put_memG hpl hq
      · rcases List.mem_cons.1 hj with rfl | hj
        · exact .inl (by simp [Rs.bl])
        rcases List.mem_cons.1 hj with rfl | hj
        · exact .inl (by simp [Rs.bl])
        rcases List.mem_cons.1 hj with rfl | hj
        · exact .inl (by simp [Rs.bl])
        · rcases b' j hj with q | q
          · exact .inl q
          · exact .inr (by omega)
    have EU := hidMk eu
    obtain ⟨n, hn⟩ : ∃ n, L.length = n := ⟨_, rfl⟩
    have hn0 : ((n : Int) == 0) = false := by
      have : n ≠ 0 := fun e => hL (List.eq_nil_of_length_eq_zero (by omega))
      simp; omega
    rw [hn] at ev
    have EV := hidMk ev
    clear eu hm h2 t2 hd h h1 hko hap hv hv2 ok hat hc hcm ev T1 hpl hw2 hn hL
    rw [EV.out]
    rw [EV.out] at EU
    go_enter Tryd.func28, Tryd.ntmps28
    go_upto_region 4 with (first
      | (refine wpList_run rfl (exec_boxE (t := 34) (v := p.v) (u := .pointer (some ⟨w.heap.size, 0, none⟩)) (w2 := w1) rfl rfl EB.out) ?_)
      | fail)
    refine lay4 (rb := s.r) (mb := s.bp) (kb := s.bk) (pb := w.heap.size) (p := p) (w2 := w2) _ w1 _ rfl rfl rfl rfl hp rsd EU.out ?_
    intro a' w' hw' ha
    subst ha
    obtain rfl : w2 = w' := hw'.symm
    simp only [Act.put, List.setIfInBounds_toArray, List.set_cons_zero, List.set_cons_succ]
    go_upto_region 5 with fail
    refine lay5 (rb := s.r) (mb := s.bp) (kb := s.bk) (pb := w.heap.size) (p := p) (fun w' => KNxt w2 base { s with P := M.put s.P p (v, L) } (KMore s.K p) w') _ w2 _ rfl rfl rfl hp rs2 CF.out ?_
    intro a' w' hw' ha
    subst ha
    simp only [Act.put, List.setIfInBounds_toArray, List.set_cons_zero, List.set_cons_succ]
    have FN := hidMk (NX.out w' hw')
    clear NX CF hw'
    go_end0
    rw [← EV.out]
    exact ⟨rfl, FN.out⟩
end Go.Proofs.YtldlljobofnmmabDoor
