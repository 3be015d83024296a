import Derived.Test.YtldlljobofnmmaaGreatDoorP4
import Derived.Laws.FloatArith
import Derived.Shelf.SlIter.Nil
import Derived.Shelf.SortM.Plain
import Derived.Shelf.SortM.SortNone
import Derived.Ground.GgzProg
import Derived.Ground.SlgmProg
import Derived.Shelf.SlGeneric
import Derived.Test.YtldlljobofnmmaaGreatDoorRows
import Derived.Test.YtldlljobofnmmaaGreatDoorP0
import Derived.Test.YtldlljobofnmmaaGreatDoorP1
import Derived.Test.YtldlljobofnmmaaGreatDoorP2
import Derived.StringKeys
import Derived.Test.YtldlljobofnmmaaGreatDoorP3
set_option maxRecDepth 100000
set_option maxHeartbeats 4000000
namespace Go.Proofs.YtldlljobofnmmaaGreatDoor
open Go.RowKit
set_option linter.unusedVariables false
set_option linter.unusedSimpArgs false
theorem belN2 (w : World) (a b : Obj) : Below w.heap.size w ((w.alloc a).alloc b) := ((Below.refl _ _).alloc (Nat.le_refl _) _).alloc (by simp) _
structure NJ (w : World) (B ro : Nat) (s : Rs) (H : List Rec) (i : Nat) (W : World) : Prop where
  ra : RgAt W B s H
  r : s.r = ro
  bel : Below w.heap.size w W
  le : ∀ q, (liOf s.P q).length ≤ i
  lo : w.heap.size ≤ B
  hi : B ≤ W.heap.size
def Np (pb : Nat) (p : PlK) (W : World) : Prop := W.heap[pb]? = some (.cells p.c.toArray 68 (0, 0))
theorem Np.below {pb : Nat} {p : PlK} {W W' : World} (h : Np pb p W) (b : Below W.heap.size W W') : Np pb p W' := (b.block _ (Array.getElem?_eq_some_iff.1 h).1).trans h
section
variable {w W W' : World} {B ro i pb : Nat} {s : Rs} {H : List Rec} {p : PlK}
theorem NJ.below (h : NJ w B ro s H i W) (b : Below W.heap.size W W') : NJ w B ro s H i W' := ⟨h.ra.below b, h.r, h.bel.trans (b.mono h.bel.size), h.le, h.lo, Nat.le_trans h.hi b.size⟩
theorem put_nil (ra : RgAt W B s H) (hb : B ≤ W.heap.size) (hp : p.ok) {x : IdK} (hx : x.ok) {v : VaV} (hv : v.ok) (hn : (liOf s.P p).length + 1 ≤ 2500000000000) : Calls Tryz.prog 18 #[.pointer (some ⟨s.r, 0, none⟩), p.v, x.v, v.v, .nilFunc] W (OpE W B s H p (liOf s.P p ++ [⟨x, v⟩])) := by
  have c := put_any ra hb hp hx hv (fv := .nilFunc) (sn := fun _ => false) (.inl ⟨rfl, fun _ => rfl⟩) hn
  have e : Rg.res (fun y : EnV => (fun _ : IdK => false) y.id) (liOf s.P p) = liOf s.P p := List.filter_eq_self.2 fun _ _ => rfl
  rw [e] at c
  exact c
def NF (w : World) (B ro : Nat) (H : List Rec) (i pb : Nat) (p : PlK) (bk : Nat) (W : World) : Prop := ∃ rc s', rc.bk = bk ∧ NJ w B ro s' (rc :: H) i W ∧ Np pb p W
theorem NJ.put (h : NJ w B ro s H i W) (np : Np pb p W) (hp : p.ok) {x : IdK} (hx : x.ok) {v : VaV} (hv : v.ok) (hn : i + 1 ≤ 2500000000000) : Calls Tryz.prog 18 #[.pointer (some ⟨ro, 0, none⟩), p.v, x.v, v.v, .nilFunc] W fun e w' => ∃ bk, e = .returned (.pointer (some ⟨bk, 0, none⟩)) ∧ (Below w.heap.size w w' ∧ Np pb p w') ∧ NF w B ro H (i + 1) pb p bk w' := by
  have c := put_nil h.ra h.hi hp hx hv (by have := h.le p; omega)
  rw [h.r] at c
  refine c.mono ?_
  rintro e w' ⟨rc, s', rfl, o⟩
  have bw : Below w.heap.size w w' := h.bel.trans (o.tch.below h.bel.size (fun j hj => Nat.le_trans h.lo (h.ra.mem.geAll hj)))
  have np' : Np pb p w' := (o.tch.block _ (Array.getElem?_eq_some_iff.1 np).1 (h.ra.mem.other np (by decide) (by decide))).trans np
  refine ⟨_, rfl, ⟨bw, np'⟩, rc, s', rfl, ⟨o.at', o.r.trans h.r, bw, fun q => ?_, h.lo, Nat.le_trans h.hi o.tch.size⟩, np'⟩
  rw [o.li]
  by_cases e : q = p
  · rw [if_pos e, List.length_append]
    have := h.le p
    simp
    omega
  · rw [if_neg e]
    have := h.le q
    omega
structure NR (rf B2 : Nat) (s2 : Rs) (rc2 : Rec) (p : PlK) (W : World) : Prop where
  ra : RgAt W B2 s2 [rc2]
  r : s2.r = rf
  li : (liOf s2.P p).length = 1
theorem pl_obj (h : Np pb p W) (hp : p.ok) : (Instr.loadAt 59 (.pointer (some ⟨pb, 0 + 0, none⟩))).run Tryz.prog W = .ok p.o.v W :=
  run_loadAt_mid (P := Tryz.prog) W pb 0 59 p.o.c _ (fun j v hv => rng_cells h j v (by rw [PlK.c, List.getElem?_append_left (List.getElem?_eq_some_iff.1 hv).1]; exact hv)) Tryz.underlying59 rfl (by rw [IdK.len hp.o]; exact szId)
theorem op_plc {b o : Nat} {x : OpR} (h : W.rangeAt b o x.c) : (Instr.loadAt 3 (.pointer (some ⟨b, o + 1, none⟩))).run Tryz.prog W = .ok (.int .i64 x.pl) W := by
  have hc : W.cell? ⟨b, o + 1, none⟩ = some (.int .i64 x.pl) := h 1 _ rfl
  go_simp
theorem op_idc {b o : Nat} {x : OpR} (hx : x.id.ok) (h : W.rangeAt b o x.c) : (Instr.loadAt 59 (.pointer (some ⟨b, o + 2, none⟩))).run Tryz.prog W = .ok x.id.v W :=
  run_loadAt_mid (P := Tryz.prog) W b (o + 2) 59 x.id.c _ (fun j v hv => by
    rw [Nat.add_assoc]
    exact h (2 + j) v (by
      rw [OpR.c, Nat.add_comm 2 j, List.getElem?_cons_succ, List.getElem?_cons_succ, List.getElem?_append_left (List.getElem?_eq_some_iff.1 hv).1]
      exact hv)) Tryz.underlying59 rfl (by rw [IdK.len hx]; exact szId)
theorem op_vac {b o : Nat} {x : OpR} (hx : x.id.ok) (h : W.rangeAt b o x.c) : (Instr.loadAt 63 (.pointer (some ⟨b, o + 35, none⟩))).run Tryz.prog W = .ok x.v.v W := ld_va (fun j v hv => by
    rw [Nat.add_assoc]
    exact h (35 + j) v (by
      rw [OpR.c, show 35 + j = (33 + j) + 1 + 1 by omega, List.getElem?_cons_succ, List.getElem?_cons_succ, List.getElem?_append_right (by rw [IdK.len hx]; omega), IdK.len hx, show 33 + j - 33 = j by omega, List.getElem?_append_left (List.getElem?_eq_some_iff.1 hv).1]
      exact hv))
theorem op_nc {b o : Nat} {x : OpR} (hx : x.id.ok) (h : W.rangeAt b o x.c) : (Instr.loadAt 2 (.pointer (some ⟨b, o + 39, none⟩))).run Tryz.prog W = .ok (.int .i64 x.n) W := by
  have hc : W.cell? ⟨b, o + 39, none⟩ = some (.int .i64 x.n) := h 39 _ (by
    rw [OpR.c, show 39 = (33 + 4) + 1 + 1 by rfl, List.getElem?_cons_succ, List.getElem?_cons_succ, List.getElem?_append_right (by rw [IdK.len hx]; omega), IdK.len hx, List.getElem?_append_right (by rw [VaV.len]; omega), VaV.len]
    rfl)
  go_simp
end
def RfO (B : Nat) (w : World) (d : Nat) (X : Sls) (v : SlV) (pv : Value) (D : List (SlV × Sls)) (p : PlK) (L : List EnV) (w' : World) : Prop := ∃ X' v' pv' h, RfP B w' d X' v' pv' (D ++ [h]) ∧ (∀ r, entF h.2 r = entF X r) ∧ List.length h.2 = X.length ∧ (∀ r, entF X' r = if r = p then L else entF X r) ∧ X'.length ≤ X.length + 1 ∧ Tch (fun j => rfB d v pv D j) w w' ∧ (∀ j, docE X' (D ++ [h]) j → docE X D j ∨ w.heap.size ≤ j) ∧ ∀ j, rfB d v' pv' (D ++ [h]) j → rfB d v pv D j ∨ w.heap.size ≤ j
theorem rfo_of {B : Nat} {W w1 w2 w3 : World} {d : Nat} {X : Sls} {v : SlV} {pv pv2 : Value} {D : List (SlV × Sls)} {h : SlV × Sls} {p : PlK} {L : List EnV} {lo : Value} (ok : SlOk X) (hk : Sls.key h.2 = X.key) (t1 : Tch (fun j => j = d ∨ pv.ownBlock = some j) W w1) (q1 : pv2.ownBlock = pv.ownBlock ∨ ∀ j, pv2.ownBlock = some j → W.heap.size ≤ j) (n1 : ∀ q ∈ h.2, ∀ j, q.1.2.v.ownBlock = some j → W.heap.size ≤ j) (n2 : ∀ j, h.1.v.ownBlock = some j → W.heap.size ≤ j)
    (b : Below w1.heap.size w1 w2) (st : SetE B w2 d X v pv2 (D ++ [h]) p L lo w3) (hlo : ∀ j, lo.ownBlock = some j → W.heap.size ≤ j) : RfO B W d X v pv D p L w3 := by
  obtain ⟨X', v', r3, e3, l3, t3, q3, z3⟩ := st
  obtain ⟨_, ek, el⟩ := key_ok hk ok
  have s12 : W.heap.size ≤ w2.heap.size := Nat.le_trans t1.size b.size
  refine ⟨X', v', pv2, h, r3, ek, el, e3, l3, ?_, fun j hj => ?_, fun j hj => ?_⟩
  · refine (t1.mono (fun j _ e => ?_)).trans' ((tch_of b _).trans' t3 (fun j _ q => q)) (fun j _ e => ?_)
    · rcases e with e | e
      · exact .inl e
      · exact .inr (.inr (.inl e))
    · rcases e with e | e
      · exact .inl e
      · exact .inr (.inl e)
  · rcases hj with ⟨q, hq, e⟩ | ⟨g, hg, q, hq, e⟩
    · rcases z3 q hq with hz | hz
      · exact .inl (.inl ⟨q, hz, e⟩)
      · rw [hz] at e; exact .inr (hlo j e)
    · rcases List.mem_append.1 hg with hg | hg
      · exact .inl (.inr ⟨g, hg, q, hq, e⟩)
      · rw [List.mem_singleton.1 hg] at hq
        exact .inr (n1 q hq j e)
  · rcases hj with e | e | e | ⟨g, hg, e⟩
    · exact .inl (.inl e)
    · rcases q3 with q | q
      · exact .inl (.inr (.inl (by rw [← q]; exact e)))
      · exact .inr (Nat.le_trans s12 (q j e))
    · rcases q1 with q | q
      · exact .inl (.inr (.inr (.inl (by rw [← q]; exact e))))
      · exact .inr (q j e)
    · rcases List.mem_append.1 hg with hg | hg
      · exact .inl (.inr (.inr (.inr ⟨g, hg, e⟩)))
      · rw [List.mem_singleton.1 hg] at e
        exact .inr (n2 j e)
theorem RfO.from {B : Nat} {w0 w w' : World} {d : Nat} {X : Sls} {v : SlV} {pv : Value} {D : List (SlV × Sls)} {p : PlK} {L : List EnV} (b : Below w0.heap.size w0 w) (h : RfO B w d X v pv D p L w') : RfO B w0 d X v pv D p L w' := by
  obtain ⟨X', v', pv', g, h1, h2, h3, h4, h5, h6, h7, h8⟩ := h
  exact ⟨X', v', pv', g, h1, h2, h3, h4, h5, (tch_of b _).trans' h6 (fun j _ q => q), fun j hj => (h7 j hj).imp id (Nat.le_trans b.size), fun j hj => (h8 j hj).imp id (Nat.le_trans b.size)⟩
theorem ent_facts {w : World} {B : Nat} {X : Sls} (h : SlsAt w B X) (p : PlK) : (∀ x ∈ entF X p, x.ok) ∧ (entF X p).length ≤ 2500000000000 := by
  unfold entF
  cases e : X.find? (fun q => decide (q.1.1 = p)) with
  | none => exact ⟨(fun x hx => by cases hx), by simp⟩
  | some q => exact ⟨(h q (List.mem_of_find?_eq_some e)).2.2.1, (h q (List.mem_of_find?_eq_some e)).2.2.2⟩
theorem RfP.stays {B : Nat} {w w' : World} {d : Nat} {X : Sls} {v : SlV} {pv : Value} {D : List (SlV × Sls)} (h : RfP B w d X v pv D) (t : Tch (fun j => j = d ∨ pv.ownBlock = some j) w w') {j : Nat} {c : Array Value} {ty : TypeId} {f : Nat × Nat} (hj : w.heap[j]? = some (.cells c ty f)) (h1 : ty ≠ 95) (h2 : ty ≠ 92) : w'.heap[j]? = some (.cells c ty f) := by
  refine (t.block j (Array.getElem?_eq_some_iff.1 hj).1 (fun e => ?_)).trans hj
  rcases e with e | e
  · rw [e] at hj; exact h1 (two_types hj h.cell)
  · obtain ⟨_, c4, hc4⟩ := h.past.ge _ e
    exact h2 (two_types hj hc4)
theorem RfP.ltB {B : Nat} {w w' w0 : World} {d : Nat} {X : Sls} {v : SlV} {pv : Value} {D : List (SlV × Sls)} (h : RfP B w d X v pv D) (t : Tch (fun j => j = d ∨ pv.ownBlock = some j) w w') (b : Below w0.heap.size w0 w) (hb : w0.heap.size ≤ B) : Below w0.heap.size w0 w' := b.trans (t.below b.size (fun j e => by
  rcases e with e | e
  · rw [e]; exact Nat.le_trans hb h.dB
  · exact Nat.le_trans hb (h.past.ge j e).1))
theorem ld_slots {W : World} {d : Nat} {v : SlV} {pv : Value} (h : W.heap[d]? = some (.cells #[v.v, pv] 95 (0, 0))) : (Instr.loadAt 92 (.pointer (some ⟨d, 0 + 0, none⟩))).run Tryz.prog W = .ok v.v W := by
  have hc : W.cell? ⟨d, 0, none⟩ = some (.slice v.a v.n v.c) := (cell_of_row W d 0 _ _ _ h).trans rfl
  have : (Instr.loadAt 92 (.pointer (some ⟨d, 0 + 0, none⟩))).run Tryz.prog W = .ok (.slice v.a v.n v.c) W := by go_simp
  exact this
theorem ld_past {W : World} {d : Nat} {a : Value} {s : SlV} (h : W.heap[d]? = some (.cells #[a, s.v] 95 (0, 0))) : (Instr.loadAt 93 (.pointer (some ⟨d, 0 + 1, none⟩))).run Tryz.prog W = .ok s.v W := by
  have hc : W.cell? ⟨d, 1, none⟩ = some (.slice s.a s.n s.c) := (cell_of_row W d 1 _ _ _ h).trans rfl
  have : (Instr.loadAt 93 (.pointer (some ⟨d, 0 + 1, none⟩))).run Tryz.prog W = .ok (.slice s.a s.n s.c) W := by go_simp
  exact this
section
variable {w0 w : World} {B d : Nat} {X : Sls} {v : SlV} {pv : Value} {D : List (SlV × Sls)} {p : PlK} {sv : Value} {I : List IdK}
theorem rf_put (h : RfP B w d X v pv D) (hB : B ≤ w.heap.size) (b0 : Below w0.heap.size w0 w) (h0 : w0.heap.size ≤ B) (hn : X.length + 1 ≤ 1100000000000) (hD : D.length + 1 ≤ 2000000000000) (hp : p.ok) {id : IdK} (hid : id.ok) {x : VaV} (hx : x.ok) (hI : SeenL w0 sv I) (hl : (entF X p).length + 1 ≤ 2500000000000) :
    Calls Tryz.prog 24 #[.pointer (some ⟨d, 0, none⟩), p.v, id.v, x.v, sv] w fun e w' => e = .returned (.tuple #[]) ∧ RfO B w d X v pv D p (Rg.res (inL I) (entF X p) ++ [⟨id, x⟩]) w' := by
  obtain ⟨wa, EA, na, ba⟩ := box_pl w p
  obtain ⟨wb, EB, nb, bb⟩ := box_id wa id
  obtain ⟨wc, EC, nc, bc⟩ := box_va wb x
  have bw : Below w.heap.size w wc := ba.trans ((bb.trans (bc.mono bb.size)).mono ba.size)
  have na' := ((bc.block _ (Nat.lt_of_lt_of_le (Array.getElem?_eq_some_iff.1 na).1 bb.size)).trans ((bb.block _ (Array.getElem?_eq_some_iff.1 na).1).trans na))
  have nb' := (bc.block _ (Array.getElem?_eq_some_iff.1 nb).1).trans nb
  have bd : Below w.heap.size w wc.drew := bw.drew
  have hd := h.below bd
  obtain ⟨ps, hps⟩ := h.pastS
  have CC := hidMk (past_step hd (Nat.le_trans hB bd.size) (by omega) hD)
  have HC := hidMk hd.cell
  obtain ⟨ek, eln⟩ := ent_facts h.en p
  have NXT : Hid (∀ w1, PastE B wc.drew d X v pv D w1 → (∀ W, W = w1 → (Instr.loadAt 68 (.pointer (some ⟨w.heap.size, 0, none⟩))).run Tryz.prog W = .ok p.v W) ∧ Calls Tryz.prog 72 #[.pointer (some ⟨d, 0, none⟩), p.v, sv] w1 fun e w2 => ∃ u, e = .returned u ∧ ∃ bv w3 u2 w4, (Np w.heap.size p w2.drew ∧ w2.drew.heap[wa.heap.size]? = some (.cells id.c.toArray 59 (0, 0)) ∧ w2.drew.heap[wb.heap.size]? = some (.cells x.c.toArray 63 (0, 0))) ∧ (Instr.buildSlice 71 1 #[(0, EnV.a ⟨id, x⟩)]).run Tryz.prog w2.drew = .ok bv w3 ∧ (Np w.heap.size p w3 ∧ w3.heap[wa.heap.size]? = some (.cells id.c.toArray 59 (0, 0)) ∧ w3.heap[wb.heap.size]? = some (.cells x.c.toArray 63 (0, 0))) ∧ (Builtin.append_ #[71, 71] 71 #[u, bv]).run Tryz.prog w3 = .ok u2 w4 ∧ (Np w.heap.size p w4 ∧ w4.heap[wa.heap.size]? = some (.cells id.c.toArray 59 (0, 0)) ∧ w4.heap[wb.heap.size]? = some (.cells x.c.toArray 63 (0, 0))) ∧ Calls Tryz.prog 73 #[.pointer (some ⟨d, 0, none⟩), p.v, u2] w4 fun e w' => e = .returned (.tuple #[]) ∧ RfO B w d X v pv D p (Rg.res (inL I) (entF X p) ++ [⟨id, x⟩]) w') := by
    rintro w1 ⟨pv2, g, r1, hk, t1, q1, n1, n2⟩
    have kp := hd.stays t1 na' (by decide) (by decide)
    have ki := hd.stays t1 nb' (by decide) (by decide)
    have kv := hd.stays t1 nc (by decide) (by decide)
    have b01 : Below w0.heap.size w0 w1 := hd.ltB t1 (b0.trans (bd.mono b0.size)) h0
    refine ⟨fun W e => by rw [e]; exact ld_pl hp (rng_cells kp), ?_⟩
    refine (rf_less r1 (by omega) hp (hI.below b01) eln ek).mono ?_
    rintro e w2 ⟨u, rfl, ou, b2⟩
    have b2d := b2.drew
    have ltk : ∀ {j : Nat} {c : Array Value} {ty : TypeId}, w1.heap[j]? = some (.cells c ty (0, 0)) → ∀ W, Below w1.heap.size w1 W → W.heap[j]? = some (.cells c ty (0, 0)) := fun hj W b => (b.block _ (Array.getElem?_eq_some_iff.1 hj).1).trans hj
    have rl : (Rg.res (inL I) (entF X p)).length + 1 ≤ 2500000000000 := by have := Rg.res_len (inL I) (entF X p) 0; omega
    have okr : ∀ y ∈ Rg.res (inL I) (entF X p), y.ok := fun y hy => ek y (List.mem_filter.1 hy).1
    obtain ⟨bv, w3, u2, w4, E1, E2, o4, b3, z3, g4, q4⟩ := RowT.run_push RN_is w2.drew w1.heap.size u _ ⟨id, x⟩ (ou.below (Below.refl w2.heap.size w2).drew) ⟨hid, hx⟩ (by unfold maxLen; omega) (by show _ * 80 ≤ _; omega) b2d.size
    have b13 : Below w1.heap.size w1 w3 := b2d.trans (b3.mono b2d.size)
    have b14 : Below w1.heap.size w1 w4 := b13.grown g4 b13.size (fun k hk => (ou.cells hk).1)
    obtain ⟨oa, oc, eo⟩ := o4.form
    have hl4 : (Rg.res (inL I) (entF X p) ++ [(⟨id, x⟩ : EnV)]).length ≤ 2500000000000 := by simp; omega
    refine ⟨u, rfl, bv, w3, u2, w4, ⟨ltk kp _ b2d, ltk ki _ b2d, ltk kv _ b2d⟩, E1, ⟨ltk kp _ b13, ltk ki _ b13, ltk kv _ b13⟩, E2, ⟨ltk kp _ b14, ltk ki _ b14, ltk kv _ b14⟩, ?_⟩
    have hB1 : B ≤ w1.heap.size := Nat.le_trans hB (Nat.le_trans bd.size t1.size)
    have hlo := o4.lo.mono hB1
    rw [eo] at hlo ⊢
    refine (rf_set (r1.below b14) (Nat.le_trans hB1 b14.size) hn hp hlo (fun y hy => by
      rcases List.mem_append.1 hy with hy | hy
      · exact okr y hy
      · rw [List.mem_singleton.1 hy]; exact ⟨hid, hx⟩) hl4).mono ?_
    rintro e w' ⟨rfl, st⟩
    rw [← eo] at st
    exact ⟨rfl, RfO.from bd (rfo_of h.ok hk t1 q1 n1 n2 b14 st (fun j hj => Nat.le_trans t1.size (o4.cells hj).1))⟩
  have HEA := hidMk EA
  have HEB := hidMk EB
  have HEC := hidMk EC
  rw [hps] at CC HC NXT ⊢
  clear h hd na nb nc na' nb' EA EB EC ba bb bc bw bd ek eln hps
  go_enter Tryz.func24, Tryz.ntmps24
  go_upto_region 2 with (first
    | (refine wpList_run rfl (exec_boxE (t := 68) (v := p.v) (u := .pointer (some ⟨w.heap.size, 0, none⟩)) (w2 := wa) rfl rfl HEA.out) ?_)
    | (refine wpList_run rfl (exec_boxE (t := 59) (v := id.v) (u := .pointer (some ⟨wa.heap.size, 0, none⟩)) (w2 := wb) rfl rfl HEB.out) ?_)
    | (refine wpList_run rfl (exec_boxE (t := 63) (v := x.v) (u := .pointer (some ⟨wb.heap.size, 0, none⟩)) (w2 := wc) rfl rfl HEC.out) ?_)
    | fail)
  refine rpu2 (d := d) (pv := ps.v) (sv := v.v) (fun W => W.heap[d]? = some (.cells #[v.v, ps.v] 95 (0, 0))) (PastE B wc.drew d X v ps.v D) _ wc _ rfl rfl HC.out (fun W hW => ld_past hW) (fun W hW => ld_slots hW) CC.out ?_
  intro u bv pv2 a' w1 hf ha
  subst ha
  simp only [Act.put, List.setIfInBounds_toArray, List.set_cons_zero, List.set_cons_succ]
  have HN := hidMk (NXT.out w1 hf)
  clear hf NXT CC HC HEA HEB HEC
  go_upto_region 3 with fail
  refine rpu3 (d := d) (pb := w.heap.size) (sv := sv) (p := p) _ _ w1 _ rfl rfl rfl rfl HN.out.1 HN.out.2 ?_
  rintro u2 a' w2 ⟨bv, w3, u3, w4, s0, e1, s1, e2, s2, cs⟩ ha
  subst ha
  simp only [Act.put, List.setIfInBounds_toArray, List.set_cons_zero, List.set_cons_succ]
  have HX := hidMk (And.intro s0 (And.intro e1 (And.intro s1 (And.intro e2 (And.intro s2 cs)))))
  clear s0 e1 s1 e2 s2 cs HN
  go_upto_region 4 with fail
  refine rpu4 (d := d) (pb := w.heap.size) (ib := wa.heap.size) (vb := wb.heap.size) (lv := u2) (bv := bv) (u := u3) (p := p) (id := id) (x := x) (w1 := w3) (w2 := w4) (fun W => Np w.heap.size p W ∧ W.heap[wa.heap.size]? = some (.cells id.c.toArray 59 (0, 0)) ∧ W.heap[wb.heap.size]? = some (.cells x.c.toArray 63 (0, 0))) (RfO B w d X v ps.v D p (Rg.res (inL I) (entF X p) ++ [⟨id, x⟩])) _ w2 _ rfl rfl rfl rfl rfl rfl hid HX.out.1 (fun W hW => ld_pl hp (rng_cells hW.1)) (fun W hW => load_id hid hW.2.1) (fun W hW => ld_va (rng_cells hW.2.2)) HX.out.2.1 HX.out.2.2.1 HX.out.2.2.2.1 HX.out.2.2.2.2.1 HX.out.2.2.2.2.2 ?_
  intro a' w5 hf ha
  subst ha
  simp only [Act.put, List.setIfInBounds_toArray, List.set_cons_zero, List.set_cons_succ]
  have HF := hidMk hf
  clear hf HX
  go_wp2
  go_end0
  exact ⟨rfl, HF.out⟩
end
section
variable {w0 w : World} {B d : Nat} {X : Sls} {v : SlV} {pv : Value} {D : List (SlV × Sls)} {p : PlK} {sv : Value} {I : List IdK}
theorem rf_delete (h : RfP B w d X v pv D) (hB : B ≤ w.heap.size) (b0 : Below w0.heap.size w0 w) (h0 : w0.heap.size ≤ B) (hn : X.length + 1 ≤ 1100000000000) (hD : D.length + 1 ≤ 2000000000000) (hp : p.ok) (hI : SeenL w0 sv I) :
    Calls Tryz.prog 26 #[.pointer (some ⟨d, 0, none⟩), p.v, sv] w fun e w' => e = .returned (.tuple #[]) ∧ RfO B w d X v pv D p (Rg.res (inL I) (entF X p)) w' := by
  obtain ⟨wc, EA, na, bw⟩ := box_pl w p
  have bd : Below w.heap.size w wc.drew := bw.drew
  have hd := h.below bd
  obtain ⟨ps, hps⟩ := h.pastS
  have CC := hidMk (past_step hd (Nat.le_trans hB bd.size) (by omega) hD)
  have HC := hidMk hd.cell
  obtain ⟨ek, eln⟩ := ent_facts h.en p
  have NXT : Hid (∀ w1, PastE B wc.drew d X v pv D w1 → Np w.heap.size p w1.drew ∧ Calls Tryz.prog 72 #[.pointer (some ⟨d, 0, none⟩), p.v, sv] w1.drew fun e w2 => ∃ u, e = .returned u ∧ Np w.heap.size p w2 ∧ Calls Tryz.prog 73 #[.pointer (some ⟨d, 0, none⟩), p.v, u] w2 fun e w' => e = .returned (.tuple #[]) ∧ RfO B w d X v pv D p (Rg.res (inL I) (entF X p)) w') := by
    rintro w1 ⟨pv2, g, r1, hk, t1, q1, n1, n2⟩
    have kp : Np w.heap.size p w1 := hd.stays t1 na (by decide) (by decide)
    have b01 : Below w0.heap.size w0 w1 := hd.ltB t1 (b0.trans (bd.mono b0.size)) h0
    have d1 : Below w1.heap.size w1 w1.drew := (Below.refl _ _).drew
    refine ⟨kp.below d1, (rf_less (r1.below d1) (by omega) hp (hI.below b01.drew) eln ek).mono ?_⟩
    rintro e w2 ⟨u, rfl, ou, b2⟩
    have b12 : Below w1.heap.size w1 w2 := d1.trans b2
    have rl : (Rg.res (inL I) (entF X p)).length ≤ 2500000000000 := by have := Rg.res_len (inL I) (entF X p) 0; omega
    have okr : ∀ y ∈ Rg.res (inL I) (entF X p), y.ok := fun y hy => ek y (List.mem_filter.1 hy).1
    refine ⟨u, rfl, kp.below b12, ?_⟩
    obtain ⟨oa, oc, eo⟩ := ou.form
    have hB1 : B ≤ w1.heap.size := Nat.le_trans hB (Nat.le_trans bd.size t1.size)
    have hlo : RN.Lo w2 B u _ := ou.lo.mono hB1
    rw [eo] at hlo ⊢
    refine (rf_set (r1.below b12) (Nat.le_trans hB1 b12.size) hn hp hlo okr rl).mono ?_
    rintro e w' ⟨rfl, st⟩
    rw [← eo] at st
    exact ⟨rfl, RfO.from bd (rfo_of h.ok hk t1 q1 n1 n2 b12 st (fun j hj => Nat.le_trans t1.size (ou.cells hj).1))⟩
  have HEA := hidMk EA
  rw [hps] at CC HC NXT ⊢
  clear h hd na EA bw bd ek eln hps
  go_enter Tryz.func26, Tryz.ntmps26
  go_upto_region 2 with (first
    | (refine wpList_run rfl (exec_boxE (t := 68) (v := p.v) (u := .pointer (some ⟨w.heap.size, 0, none⟩)) (w2 := wc) rfl rfl HEA.out) ?_)
    | fail)
  refine rde2 (d := d) (pv := ps.v) (sv := v.v) (fun W => W.heap[d]? = some (.cells #[v.v, ps.v] 95 (0, 0))) (PastE B wc.drew d X v ps.v D) _ wc _ rfl rfl HC.out (fun W hW => ld_past hW) (fun W hW => ld_slots hW) CC.out ?_
  intro u bv pv2 a' w1 hf ha
  subst ha
  simp only [Act.put, List.setIfInBounds_toArray, List.set_cons_zero, List.set_cons_succ]
  have HN := hidMk (NXT.out w1 hf)
  clear hf NXT CC HC HEA
  go_upto_region 3 with fail
  refine rde3 (d := d) (pb := w.heap.size) (sv := sv) (p := p) (Np w.heap.size p) (RfO B w d X v ps.v D p (Rg.res (inL I) (entF X p))) _ w1 _ rfl rfl rfl rfl HN.out.1 (fun W hW => ld_pl hp (rng_cells hW)) HN.out.2 ?_
  intro u2 a' w5 hf ha
  subst ha
  simp only [Act.put, List.setIfInBounds_toArray, List.set_cons_zero, List.set_cons_succ]
  have HF := hidMk hf
  clear hf HN
  go_wp2
  go_end0
  exact ⟨rfl, HF.out⟩
end
def cuL (sn : EnV → Bool) (gv : VaV → VaV) (L : List EnV) (i : Nat) : List EnV := chs sn gv (L.take i) ++ L.drop i
theorem cuL_zero (sn : EnV → Bool) (gv : VaV → VaV) (L : List EnV) : cuL sn gv L 0 = L := by simp [cuL, chs]
theorem cuL_all (sn : EnV → Bool) (gv : VaV → VaV) {L : List EnV} {n : Nat} (h : L.length ≤ n) : cuL sn gv L n = chs sn gv L := by
  unfold cuL
  rw [List.take_of_length_le h, List.drop_of_length_le h, List.append_nil]
theorem cuL_at {sn : EnV → Bool} {gv : VaV → VaV} {L : List EnV} {i : Nat} {x : EnV} (h : L[i]? = some x) : (cuL sn gv L i)[i]? = some x := by
  have hi := (List.getElem?_eq_some_iff.1 h).1
  unfold cuL
  rw [List.getElem?_append_right (by simp [chs]; omega)]
  simp [chs, Nat.min_eq_left (Nat.le_of_lt hi), h]
theorem cuL_succ {sn : EnV → Bool} {gv : VaV → VaV} {L : List EnV} {i : Nat} {x : EnV} (h : L[i]? = some x) : cuL sn gv L (i + 1) = if sn x then (cuL sn gv L i).set i { x with v := gv x.v } else cuL sn gv L i := by
  have hi := (List.getElem?_eq_some_iff.1 h).1
  have e1 : L.take (i + 1) = L.take i ++ [x] := by rw [List.take_add_one, h]; rfl
  have e2 : L.drop i = x :: L.drop (i + 1) := by rw [List.drop_eq_getElem_cons hi, (List.getElem?_eq_some_iff.1 h).2]
  unfold cuL
  rw [e1, e2]
  have hl : (chs sn gv (L.take i)).length = i := by simp [chs]; omega
  unfold chs at hl ⊢
  rw [List.map_append, List.append_assoc]
  by_cases hs : sn x = true
  · rw [if_pos hs, List.set_append_right _ _ (by omega), hl, Nat.sub_self]
    simp [hs, chg]
  · rw [if_neg hs]
    simp [hs]
theorem cuL_ok {sn : EnV → Bool} {gv : VaV → VaV} (hg : ∀ v : VaV, v.ok → (gv v).ok) {L : List EnV} (ok : ∀ x ∈ L, x.ok) (i : Nat) : ∀ x ∈ cuL sn gv L i, x.ok := by
  intro x hx
  rcases List.mem_append.1 hx with hx | hx
  · obtain ⟨y, hy, rfl⟩ := List.mem_map.1 hx
    have := ok y (List.mem_of_mem_take hy)
    split
    · exact ⟨this.i, hg _ this.w⟩
    · exact this
  · exact ok x (List.mem_of_mem_drop hx)
theorem rright7 (n : Int) (f : Nat) (t : ByteArray) (w : World) : Calls Tryz.prog 84 #[.agg #[.int .u8 7, .int .i64 n, .float .f64 f, .string t]] w fun e w' => e = .returned (.bool ((f == 0) && (t.toList == ([] : List UInt8)))) ∧ Below w.heap.size w w' := by
  have hb : Below w.heap.size w (w.alloc (.cells #[.int .u8 7, .int .i64 n, .float .f64 f, .string t] 63)) := (Below.refl _ _).alloc (Nat.le_refl _) _
  have HB := hidMk hb
  clear hb
  generalize e2 : (t.toList == ([] : List UInt8)) = q2
  generalize e1 : (f == 0) = q1
  have E1 := hidMk e1
  have E2 := hidMk e2
  have ef : ((f : Int) == 0) = (f == 0) := by rw [Bool.eq_iff_iff]; simp
  rw [e1] at ef
  cases q1 <;> cases q2
  all_goals
    go_enter Tryz.func84, Tryz.ntmps84
    go_wp2_with (first
      | (refine wpList_val rfl (exec_ext1 rfl rfl (bits_runR _ _)) ?_)
      | fail)
    go_ret
    exact ⟨rfl, HB.out⟩
theorem rsum_any {x : VaV} (hx : x.ok) {n : Int} (hn : -9223372036854775808 ≤ n ∧ n ≤ 9223372036854775807) (w : World) : Calls Tryz.prog 75 #[x.v, .int .i64 n] w fun e w' => e = .returned (sumV n x).v ∧ Below w.heap.size w w' := by
  obtain ⟨w1, E1, n1, b1⟩ := box_va w x
  have b2 : Below w1.heap.size w1 (w1.alloc (.cells zVa.c.toArray 63)) := (Below.refl _ _).alloc (Nat.le_refl _) _
  have n2 : (w1.alloc (.cells zVa.c.toArray 63)).heap[w1.heap.size]? = some (.cells zVa.c.toArray 63 (0, 0)) := heap_alloc_new _ _
  have E2 : (Instr.alloc 63 true (.tuple #[])).run Tryz.prog w1 = .ok (.pointer (some ⟨w1.heap.size, 0, none⟩)) (w1.alloc (.cells zVa.c.toArray 63)) := by kernel_rfl
  generalize w1.alloc (.cells zVa.c.toArray 63) = w2 at *
  have n1' := (b2.block _ (Array.getElem?_eq_some_iff.1 n1).1).trans n1
  have bw : Below w.heap.size w w2 := b1.trans (b2.mono b1.size)
  have lt1 := (Array.getElem?_eq_some_iff.1 n1).1
  have hne : w.heap.size ≠ w1.heap.size := by omega
  have hz1 : w.heap.size ≤ w1.heap.size := b1.size
  have FIN : Hid (∀ (W : World) (y : VaV), Below w.heap.size w W → W.heap[w.heap.size]? = some (.cells y.c.toArray 63 (0, 0)) → W.heap[w1.heap.size]? = some (.cells zVa.c.toArray 63 (0, 0)) → ∃ W', (Instr.loadAt 63 (.pointer (some ⟨w.heap.size, 0, none⟩))).run Tryz.prog W = .ok y.v W ∧ (Instr.storeAt 63 (.pointer (some ⟨w1.heap.size, 0, none⟩)) y.v).run Tryz.prog W = .ok () W' ∧ W'.heap[w1.heap.size]? = some (.cells y.c.toArray 63 (0, 0)) ∧ Below w.heap.size w W') := by
    intro W y bW h1 h2
    refine ⟨_, ld_va (rng_cells h1), va_store (x := zVa) (u := y) h2, setRow_heap W w1.heap.size _ _ _ _ h2, bW.trans ((setRow_tch W w1.heap.size _).below bW.size (fun j e => by simp at e; omega))⟩
  have RI := hidMk rright7
  obtain ⟨k, m, f, t⟩ := x
  have HX := hidMk hx
  have c0 : w2.cell? ⟨w.heap.size, 0, none⟩ = some (.int .u8 k) := (cell_of_row _ _ 0 _ _ _ n1').trans rfl
  have LV := hidMk (ld_va (x := ⟨k, m, f, t⟩) (rng_cells n1'))
  have H1 := hidMk E1
  have H2 := hidMk E2
  have HS := hidMk (And.intro n1' (And.intro n2 bw))
  have hk0 := hx.k0
  have hk1 := hx.k1
  simp only at hk0 hk1
  clear hx E1 E2 n1 n1' n2 b1 b2 bw lt1
  obtain ⟨b, hb⟩ : ∃ b, w.heap.size = b := ⟨_, rfl⟩
  obtain ⟨c, hc⟩ : ∃ b, w1.heap.size = b := ⟨_, rfl⟩
  have HB := hidMk hb
  rw [hb] at c0 LV H1 HS FIN hne hz1
  rw [hc] at H2 HS FIN hne hz1
  clear hb hc
  by_cases hk : k = 7
  · subst hk
    obtain ⟨q, hq⟩ : ∃ q, ((f == 0) && (t.toList == ([] : List UInt8))) = q := ⟨_, rfl⟩
    have HQ := hidMk hq
    have CR : Hid (Calls Tryz.prog 84 #[VaV.v ⟨7, m, f, t⟩] w2 fun e w' => e = .returned (.bool q) ∧ Below w2.heap.size w2 w') := by
      rw [← hq]
      exact RI.out m f t w2
    clear hq RI
    cases q
    · go_enter Tryz.func75, Tryz.ntmps75
      go_upto_region 3 with (first
        | (refine wpList_run rfl (exec_boxE (t := 63) (v := VaV.v ⟨7, m, f, t⟩) (u := .pointer (some ⟨b, 0, none⟩)) (w2 := w1) rfl rfl H1.out) ?_)
        | (refine wpList_run rfl (exec_alloc (w2 := w2) rfl H2.out) ?_)
        | (refine wpList_val rfl (exec_load (t := 63) (v := VaV.v ⟨7, m, f, t⟩) rfl rfl LV.out) ?_)
        | (go_at_call 84; refine CR.out.mono ?_; rintro e w3 ⟨rfl, b3⟩)
        | fail)
      have z2 : b ≤ w2.heap.size := by have := HS.out.2.2.size; have := HB.out; omega
      obtain ⟨w4, l4, s4, n4, b4⟩ := FIN.out w3 ⟨7, m, f, t⟩ (HS.out.2.2.trans (b3.mono z2)) ((b3.block _ (Array.getElem?_eq_some_iff.1 HS.out.1).1).trans HS.out.1) ((b3.block _ (Array.getElem?_eq_some_iff.1 HS.out.2.1).1).trans HS.out.2.1)
      have L4 := hidMk l4
      have S4 := hidMk s4
      have N4 := hidMk (And.intro n4 b4)
      clear l4 s4 n4 b4 b3 CR LV FIN
      go_wp2_with (first
        | (refine wpList_val rfl (exec_load (t := 63) (v := VaV.v ⟨7, m, f, t⟩) rfl rfl L4.out) ?_)
        | (refine wpList_skip rfl rfl (exec_store (w2 := w4) rfl rfl rfl S4.out) ?_)
        | fail)
      refine bodyPost_ret (results_cell_row Tryz.results75 _ _ c _ _ _ _ rfl N4.out.1 Tryz.underlying63 rfl szVa) rfl ?_
      refine ⟨?_, by rw [HB.out]; exact N4.out.2⟩
      rw [sumV, if_neg]
      · rfl
      · rintro ⟨_, h⟩
        unfold rightC at h
        rw [HQ.out] at h
        cases h
    · go_enter Tryz.func75, Tryz.ntmps75
      go_upto_region 2 with (first
        | (refine wpList_run rfl (exec_boxE (t := 63) (v := VaV.v ⟨7, m, f, t⟩) (u := .pointer (some ⟨b, 0, none⟩)) (w2 := w1) rfl rfl H1.out) ?_)
        | (refine wpList_run rfl (exec_alloc (w2 := w2) rfl H2.out) ?_)
        | (refine wpList_val rfl (exec_load (t := 63) (v := VaV.v ⟨7, m, f, t⟩) rfl rfl LV.out) ?_)
        | (go_at_call 84; refine CR.out.mono ?_; rintro e w3 ⟨rfl, b3⟩)
        | fail)
      have z2 : b ≤ w2.heap.size := by have := HS.out.2.2.size; have := HB.out; omega
      have k1 := (b3.block _ (Array.getElem?_eq_some_iff.1 HS.out.1).1).trans HS.out.1
      have k2 := (b3.block _ (Array.getElem?_eq_some_iff.1 HS.out.2.1).1).trans HS.out.2.1
      have c1 : w3.cell? ⟨b, 1, none⟩ = some (.int .i64 m) := (cell_of_row _ _ 1 _ _ _ k1).trans rfl
      have f1 := frozen_of_row w3 b 1 _ _ k1
      have k1s := Go.heap_setCell_same w3 b 1 _ 63 (.int .i64 (IntKind.i64.wrap (m + n))) k1
      have k2s : (w3.setCell ⟨b, 1, none⟩ (.int .i64 (IntKind.i64.wrap (m + n)))).heap[c]? = _ := (Go.heap_setCell_other _ _ _ _ (fun e => hne e.symm)).trans k2
      have bs : Below b w (w3.setCell ⟨b, 1, none⟩ (.int .i64 (IntKind.i64.wrap (m + n)))) := (HS.out.2.2.trans (b3.mono z2)).trans (Tch.below (B := b) (show Tch (fun j => j = b) w3 (w3.setCell ⟨b, 1, none⟩ (.int .i64 (IntKind.i64.wrap (m + n)))) from ⟨rfl, rfl, rfl, by simp [World.setCell], fun j _ hj => Go.heap_setCell_other _ _ _ _ hj⟩) (Nat.le_trans z2 b3.size) (fun j e => by rw [e]; exact Nat.le_refl _))
      have ES : (Instr.storeAt 2 (.pointer (some ⟨b, 1, none⟩)) (.int .i64 (IntKind.i64.wrap (m + n)))).run Tryz.prog w3 = .ok () (w3.setCell ⟨b, 1, none⟩ (.int .i64 (IntKind.i64.wrap (m + n)))) := by go_simp
      obtain ⟨w4, l4, s4, n4, b4⟩ := FIN.out _ ⟨7, IntKind.i64.wrap (m + n), f, t⟩ bs k1s k2s
      generalize w3.setCell ⟨b, 1, none⟩ (.int .i64 (IntKind.i64.wrap (m + n))) = w5 at *
      have hsum : Hid ((binOp .add 2 (.int .i64 m) (.int .i64 n)).run Tryz.prog w3 = .ok (.int .i64 (IntKind.i64.wrap (m + n))) w3) := by
        show _ = _
        go_simp
      obtain ⟨s, hs⟩ : ∃ s, IntKind.i64.wrap (m + n) = s := ⟨_, rfl⟩
      have HSS := hidMk hs
      rw [hs] at ES l4 s4 n4 hsum
      clear hs
      have HES := hidMk ES
      have L4 := hidMk l4
      have S4 := hidMk s4
      have N4 := hidMk (And.intro n4 b4)
      clear l4 s4 n4 b4 b3 CR LV FIN ES bs k1 k2 k1s k2s f1
      go_wp2_with (first
        | (refine wpList_val rfl (exec_binOp (xv := .int .i64 m) (yv := .int .i64 n) rfl rfl rfl (by kernel_rfl) hsum.out) ?_)
        | (refine wpList_skip rfl rfl (exec_store (w2 := w5) rfl rfl rfl HES.out) ?_)
        | (refine wpList_val rfl (exec_load (t := 63) (v := VaV.v ⟨7, s, f, t⟩) rfl rfl L4.out) ?_)
        | (refine wpList_skip rfl rfl (exec_store (w2 := w4) rfl rfl rfl S4.out) ?_)
        | fail)
      refine bodyPost_ret (results_cell_row Tryz.results75 _ _ c _ _ _ _ rfl N4.out.1 Tryz.underlying63 rfl szVa) rfl ?_
      refine ⟨?_, by rw [HB.out]; exact N4.out.2⟩
      rw [sumV, if_pos ⟨rfl, HQ.out⟩, HSS.out]
      rfl
  · have e7 : (k == 7) = false := by simpa using hk
    have HK := hidMk hk
    obtain ⟨w4, l4, s4, n4, b4⟩ := FIN.out w2 ⟨k, m, f, t⟩ HS.out.2.2 HS.out.1 HS.out.2.1
    have L4 := hidMk l4
    have S4 := hidMk s4
    have N4 := hidMk (And.intro n4 b4)
    clear l4 s4 n4 b4 LV FIN RI hk
    go_enter Tryz.func75, Tryz.ntmps75
    go_wp2_with (first
      | (refine wpList_run rfl (exec_boxE (t := 63) (v := VaV.v ⟨k, m, f, t⟩) (u := .pointer (some ⟨b, 0, none⟩)) (w2 := w1) rfl rfl H1.out) ?_)
      | (refine wpList_run rfl (exec_alloc (w2 := w2) rfl H2.out) ?_)
      | (refine wpList_val rfl (exec_load (t := 63) (v := VaV.v ⟨k, m, f, t⟩) rfl rfl L4.out) ?_)
      | (refine wpList_skip rfl rfl (exec_store (w2 := w4) rfl rfl rfl S4.out) ?_)
      | fail)
    refine bodyPost_ret (results_cell_row Tryz.results75 _ _ c _ _ _ _ rfl N4.out.1 Tryz.underlying63 rfl szVa) rfl ?_
    refine ⟨?_, by rw [HB.out]; exact N4.out.2⟩
    rw [sumV, if_neg (fun h => HK.out h.1)]
    rfl
section
variable {w0 w : World} {B d : Nat} {X : Sls} {v : SlV} {pv : Value} {D : List (SlV × Sls)} {p : PlK} {sv : Value} {I : List IdK}
theorem own_val {W : World} {base : Nat} {u : Value} {L : List EnV} (o : RN.Own W base u L) (ok : ∀ x ∈ L, x.ok) {i : Nat} {x : EnV} (hx : L[i]? = some x) {y : VaV} (hy : y.ok) : ∃ g c W', u = .slice (some ⟨g, 0, none⟩) L.length c ∧ (Instr.storeAt 63 (.pointer (some ⟨g, 0 + 37 * i + 33, none⟩)) y.v).run Tryz.prog W = .ok () W' ∧ RN.Own W' base u (L.set i { x with v := y }) ∧ Tch (fun j => u.ownBlock = some j) W W' := by
  have hxo := ok x (List.mem_of_getElem? hx)
  have hl := IdK.len hxo.i
  obtain ⟨g, c, e, _, W', es, o', t', _⟩ := RowT.own_seg RN_is o ok (i := i) (y := x) (x := { x with v := y }) hx ⟨hxo.i, hy⟩ (q := 33) (n := 4) y.c rfl (by
    show x.id.c ++ y.c = (x.id.c ++ x.v.c).take 33 ++ y.c ++ (x.id.c ++ x.v.c).drop (33 + 4)
    rw [← hl, List.take_left, List.drop_of_length_le (by rw [List.length_append, VaV.len]; omega), List.append_nil]) (by decide) y.one (t := 63) (v := y.v) szVa rfl
  exact ⟨g, c, W', e, by rw [Nat.zero_add]; exact es, o', t'⟩
theorem rf_add (h : RfP B w d X v pv D) (hB : B ≤ w.heap.size) (b0 : Below w0.heap.size w0 w) (h0 : w0.heap.size ≤ B) (hn : X.length + 1 ≤ 1100000000000) (hD : D.length + 1 ≤ 2000000000000) (hp : p.ok) {m : Int} (hm : -9223372036854775808 ≤ m ∧ m ≤ 9223372036854775807) (hI : SeenL w0 sv I) :
    Calls Tryz.prog 27 #[.pointer (some ⟨d, 0, none⟩), p.v, .int .i64 m, sv] w fun e w' => e = .returned (.tuple #[]) ∧ RfO B w d X v pv D p (chs (inL I) (sumV m) (entF X p)) w' := by
  obtain ⟨wc, EA, na, bw⟩ := box_pl w p
  have bd : Below w.heap.size w wc.drew := bw.drew
  have hd := h.below bd
  obtain ⟨ps, hps⟩ := h.pastS
  have CC := hidMk (past_step hd (Nat.le_trans hB bd.size) (by omega) hD)
  have HC := hidMk hd.cell
  obtain ⟨ek, eln⟩ := ent_facts h.en p
  obtain ⟨L, hL⟩ : ∃ L, entF X p = L := ⟨_, rfl⟩
  have NXT : Hid (∀ w1, PastE B wc.drew d X v pv D w1 → Np w.heap.size p w1 ∧ SeenL w1 sv I ∧ Calls Tryz.prog 52 #[.pointer (some ⟨d, 0, none⟩), p.v] w1 (fun e w2 => ∃ u, e = .returned u ∧ RN.Own w2 w1.heap.size u L ∧ Below w1.heap.size w1 w2) ∧ ∀ w2 u, Below w1.heap.size w1 w2 → RN.Own w2 w1.heap.size u (chs (inL I) (sumV m) L) → Calls Tryz.prog 73 #[.pointer (some ⟨d, 0, none⟩), p.v, u] w2 fun e w' => e = .returned (.tuple #[]) ∧ RfO B w d X v pv D p (chs (inL I) (sumV m) L) w') := by
    rintro w1 ⟨pv2, g, r1, hk, t1, q1, n1, n2⟩
    have kp : Np w.heap.size p w1 := hd.stays t1 na (by decide) (by decide)
    have b01 : Below w0.heap.size w0 w1 := hd.ltB t1 (b0.trans (bd.mono b0.size)) h0
    have ce := rf_entries r1 (by omega) hp
    rw [hL] at ce
    refine ⟨kp, hI.below b01, ce, fun w2 u b2 ou => ?_⟩
    obtain ⟨oa, oc, eo⟩ := ou.form
    have hB1 : B ≤ w1.heap.size := Nat.le_trans hB (Nat.le_trans bd.size t1.size)
    have hlo : RN.Lo w2 B u _ := ou.lo.mono hB1
    rw [eo] at hlo ⊢
    have okc : ∀ y ∈ chs (inL I) (sumV m) L, y.ok := by
      have := cuL_ok (sn := inL I) (gv := sumV m) (fun v hv => sumV_ok hv) (L := L) (by rw [← hL]; exact ek) L.length
      rw [cuL_all _ _ (Nat.le_refl _)] at this
      exact this
    refine (rf_set (r1.below b2) (Nat.le_trans hB1 b2.size) hn hp hlo okc (by simp only [chs, List.length_map]; rw [← hL]; exact eln)).mono ?_
    rintro e w' ⟨rfl, st⟩
    rw [← eo] at st
    exact ⟨rfl, RfO.from bd (rfo_of h.ok hk t1 q1 n1 n2 b2 st (fun j hj => Nat.le_trans t1.size (ou.cells hj).1))⟩
  have HEA := hidMk EA
  rw [hL] at ek eln ⊢
  obtain ⟨n, hnn⟩ : ∃ n, L.length = n := ⟨_, rfl⟩
  have HO := hidMk (And.intro ek hnn)
  rw [hnn] at eln
  rw [hps] at CC HC NXT ⊢
  clear h hd na EA bw bd ek hps hL hnn
  go_enter Tryz.func27, Tryz.ntmps27
  go_upto_region 2 with (first
    | (refine wpList_run rfl (exec_boxE (t := 68) (v := p.v) (u := .pointer (some ⟨w.heap.size, 0, none⟩)) (w2 := wc) rfl rfl HEA.out) ?_)
    | fail)
  refine rad2 (d := d) (pv := ps.v) (sv := v.v) (fun W => W.heap[d]? = some (.cells #[v.v, ps.v] 95 (0, 0))) (PastE B wc.drew d X v ps.v D) _ wc _ rfl rfl HC.out (fun W hW => ld_past hW) (fun W hW => ld_slots hW) CC.out ?_
  intro u bv pv2 a' w1 hf ha
  subst ha
  simp only [Act.put, List.setIfInBounds_toArray, List.set_cons_zero, List.set_cons_succ]
  have HN := hidMk (NXT.out w1 hf)
  clear hf NXT CC HC HEA
  go_upto_region 3 with fail
  refine rad3 (d := d) (pb := w.heap.size) (p := p) (fun u w2 => RN.Own w2 w1.heap.size u L ∧ Below w1.heap.size w1 w2) _ w1 _ rfl rfl rfl (fun W e => by rw [e]; exact ld_pl hp (rng_cells HN.out.1)) HN.out.2.2.1 ?_
  intro u2 a' w2 hf ha
  subst ha
  simp only [Act.put, List.setIfInBounds_toArray, List.set_cons_zero, List.set_cons_succ]
  obtain ⟨oa, oc, eo⟩ := hf.1.form
  have H2 := hidMk hf
  clear hf
  subst eo
  rw [HO.out.2] at H2 ⊢
  go_wp2
  go_loopw [9] (fun v9 wr => ∃ i : Nat, v9 = .int .i64 (i : Int) ∧ i ≤ n ∧ Hid (RN.Own wr w1.heap.size (.slice oa n oc) (cuL (inL I) (sumV m) L i) ∧ Below w1.heap.size w1 wr)) (fun v9 wr => n - (match v9 with | .int _ i => i.toNat | _ => 0))
  case atStart => exact ⟨0, rfl, Nat.zero_le _, by rw [cuL_zero]; exact H2.out.1, H2.out.2⟩
  case round =>
    clear H2
    obtain ⟨i, rfl, hin, HI⟩ := hrel
    by_cases hi : i < n
    · obtain ⟨x, hxi⟩ : ∃ x, L[i]? = some x := ⟨_, List.getElem?_eq_getElem (by have := HO.out.2; omega)⟩
      have hx : x.ok := HO.out.1 x (List.mem_of_getElem? hxi)
      have okc := cuL_ok (sn := inL I) (gv := sumV m) (fun v hv => sumV_ok hv) HO.out.1 i
      have hci := cuL_at (sn := inL I) (gv := sumV m) hxi
      obtain ⟨ga, gc, ee, hat, _⟩ := HI.out.1.open RN_is okc
      obtain ⟨ea1, ea2⟩ : oa = ga ∧ oc = gc := by injection ee with e1 _ e3; exact ⟨e1, e3⟩
      subst ea1 ea2
      obtain ⟨g, o, rfl, lg, hr⟩ : ∃ g o, oa = some ⟨g, o, none⟩ ∧ g < wr.heap.size ∧ wr.rangeAt g (o + 37 * i) x.c := by
        rcases hat with h | ⟨g, o, e, h1, h2⟩
        · rw [h] at hci; cases hci
        · exact ⟨g, o, e, h1, h2 i x hci⟩
      have h63 : n ≤ 9223372036854775807 := by omega
      have CS : Hid (Calls Tryz.prog 23 #[sv, x.id.v] wr fun e w' => e = .returned (.bool (inL I x)) ∧ Below wr.heap.size wr w') := (HN.out.2.1.below HI.out.2).saw hx.i
      have HX := hidMk (And.intro hxi (And.intro hx (And.intro hr (And.intro lg (And.intro okc hci)))))
      clear hxi hx okc hci hat ee hr lg
      go_upto_region 7 with fail
      refine rad7 (g := g) (o := o) (n := n) (c := oc) (i := i) (x := x) (sv := sv) (r := inL I x) (fun w' => Below wr.heap.size wr w') _ wr _ rfl rfl rfl rfl hi h63 (fun W e => by rw [e]; exact en_id HX.out.2.1 HX.out.2.2.1) CS.out ?_
      intro a' w3 hf ha
      subst ha
      simp only [Act.put, List.setIfInBounds_toArray, List.set_cons_zero, List.set_cons_succ]
      have B3 := hidMk hf
      clear hf CS
      by_cases hs : inL I x = true
      · have HS := hidMk hs
        rw [hs]
        clear hs
        have CV : Hid (Calls Tryz.prog 75 #[x.v.v, .int .i64 m] w3 fun e w' => e = .returned (sumV m x.v).v ∧ ∃ w5, (Instr.storeAt 63 (.pointer (some ⟨g, o + 37 * i + 33, none⟩)) (sumV m x.v).v).run Tryz.prog w' = .ok () w5 ∧ (RN.Own w5 w1.heap.size (.slice (some ⟨g, o, none⟩) n oc) (cuL (inL I) (sumV m) L (i + 1)) ∧ Below w1.heap.size w1 w5)) := by
          refine (rsum_any HX.out.2.1.w hm w3).mono ?_
          rintro e w' ⟨rfl, b⟩
          have b3' := B3.out.trans (b.mono B3.out.size)
          have own' := HI.out.1.below b3'
          obtain ⟨g', c', w5, eg, es, o5, t5⟩ := own_val own' HX.out.2.2.2.2.1 HX.out.2.2.2.2.2 (sumV_ok HX.out.2.1.w)
          have eg2 : some (⟨g, o, none⟩ : Addr) = some ⟨g', 0, none⟩ := by injection eg
          injection eg2 with eg2
          injection eg2 with e1 e2
          subst e1 e2
          refine ⟨rfl, w5, es, ?_, ?_⟩
          · rw [cuL_succ HX.out.1, if_pos HS.out]
            exact o5
          · have bb := HI.out.2.trans (b3'.mono HI.out.2.size)
            exact bb.trans (t5.below bb.size (fun j e => (own'.cells e).1))
        have LW := hidMk (en_va HX.out.2.1 (rangeAt_keep HX.out.2.2.1 (B3.out.block _ HX.out.2.2.2.1)))
        go_upto_region 8 with fail
        refine rad8 (g := g) (o := o) (n := n) (c := oc) (i := i) (m := m) (x := x) (y := sumV m x.v) (fun w5 => RN.Own w5 w1.heap.size (.slice (some ⟨g, o, none⟩) n oc) (cuL (inL I) (sumV m) L (i + 1)) ∧ Below w1.heap.size w1 w5) _ w3 _ rfl rfl rfl rfl hi h63 (fun W e => by rw [e]; exact LW.out) CV.out ?_
        intro a' w5 hf ha
        subst ha
        simp only [Act.put, List.setIfInBounds_toArray, List.set_cons_zero, List.set_cons_succ]
        have H5 := hidMk hf
        clear hf CV LW B3 HX
        go_wp2
        rw [show ((i : Int) + 1) = ((i + 1 : Nat) : Int) by omega]
        refine ⟨⟨i + 1, rfl, hi, H5.out⟩, ?_⟩
        show n - ((i + 1 : Nat) : Int).toNat < n - (i : Int).toNat
        omega
      · have HS := hidMk hs
        rw [show inL I x = false by simpa using hs]
        clear hs
        go_wp2
        rw [show ((i : Int) + 1) = ((i + 1 : Nat) : Int) by omega]
        refine ⟨⟨i + 1, rfl, hi, ?_, HI.out.2.trans (B3.out.mono HI.out.2.size)⟩, ?_⟩
        · rw [cuL_succ HX.out.1, if_neg HS.out]
          exact HI.out.1.below B3.out
        · show n - ((i + 1 : Nat) : Int).toNat < n - (i : Int).toNat
          omega
    · obtain rfl : i = n := by omega
      have HI2 : Hid (RN.Own wr w1.heap.size (.slice oa i oc) (chs (inL I) (sumV m) L) ∧ Below w1.heap.size w1 wr) := by
        have h2 := HI.out
        rw [cuL_all _ _ (by have := HO.out.2; omega)] at h2
        exact h2
      have CS := hidMk (HN.out.2.2.2 wr _ HI2.out.2 HI2.out.1)
      have kp : Np w.heap.size p wr := HN.out.1.below HI2.out.2
      have LP := hidMk (ld_pl hp (rng_cells kp))
      clear HI HI2 HN kp hin hi
      go_upto_region 9 with fail
      refine rad9 (d := d) (pb := w.heap.size) (lv := .slice oa i oc) (p := p) (RfO B w d X v ps.v D p (chs (inL I) (sumV m) L)) _ wr _ rfl rfl rfl rfl (fun W e => by rw [e]; exact LP.out) CS.out ?_
      intro a' w5 hf ha
      subst ha
      simp only [Act.put, List.setIfInBounds_toArray, List.set_cons_zero, List.set_cons_succ]
      have HF := hidMk hf
      clear hf CS LP
      go_wp2
      go_end0
      exact ⟨rfl, HF.out⟩
end
theorem sl_ps {g n c k : Nat} (hk : k ≤ c) (W : World) : (Instr.sliceAt 93 (.slice (some ⟨g, 0, none⟩) n c) none (some (.int .i64 (k : Int))) none).run Tryz.prog W = .ok (.slice (some ⟨g, 0, none⟩) k c) W := by
  have h1 : (0 : Int) ≤ (k : Int) ∧ (k : Int) ≤ (c : Int) := by omega
  have hs : (sizeOf 92).run Tryz.prog W = .ok 1 W := by kernel_rfl
  simp only [Instr.sliceAt, Instr.slice, Instr.sliceBounds, Instr.sliceBound, run_underlying Tryz.underlying93, asIntOf, Sem.run_bind, Sem.run_pure, Result.andThen_ok, hs]
  rw [if_pos h1]
  simp only [Sem.run_bind, Sem.run_pure, Result.andThen_ok, Int.toNat_natCast]
  simp [Addr.add]
theorem ld_slv {W : World} {g k : Nat} {s : SlV} (h : W.cell? ⟨g, k, none⟩ = some s.v) : (Instr.loadAt 92 (.pointer (some ⟨g, k, none⟩))).run Tryz.prog W = .ok s.v W := by
  have hc : W.cell? ⟨g, k, none⟩ = some (.slice s.a s.n s.c) := h
  clear h
  have : (Instr.loadAt 92 (.pointer (some ⟨g, k, none⟩))).run Tryz.prog W = .ok (.slice s.a s.n s.c) W := by go_simp
  exact this
theorem rf_undo_ok {B : Nat} {w : World} {d : Nat} {X : Sls} {v : SlV} {pv : Value} {D : List (SlV × Sls)} {h1 : SlV × Sls} (h : RfP B w d X v pv (D ++ [h1])) (hn : D.length + 1 ≤ 2000000000000) :
    Calls Tryz.prog 58 #[.pointer (some ⟨d, 0, none⟩), .int .i64 ((D.length + 1 : Nat) : Int)] w fun e w' => e = .returned (.int .i64 0) ∧ ∃ pv2, RfP B w' d h1.2 h1.1 pv2 D ∧ Tch (fun j => j = d) w w' ∧ pv2.ownBlock = pv.ownBlock := by
  have hp := h.past
  rcases hp.2 with ⟨_, hz⟩ | ⟨g, cap, cur, epv, hbg, hg, hnc, hcm, hcs, htake⟩
  · simp at hz
  have hlen : ((D ++ [h1]).map (·.1.v)).length = D.length + 1 := by simp
  rw [hlen] at epv hnc htake
  rw [Nat.mul_one] at htake
  have hcell : w.cell? ⟨g, D.length, none⟩ = some h1.1.v := by
    rw [cell_of_row w g _ cur _ _ hg]
    have h2 : ((D ++ [h1]).map (·.1.v))[D.length]? = some h1.1.v := by simp
    rw [← htake, List.getElem?_take, if_pos (by omega)] at h2
    simpa using h2
  have gd : g ≠ d := fun e => by
    rw [e] at hg
    have := two_types hg h.cell
    revert this; decide
  obtain ⟨w1, E1, c1, t1⟩ := st_slots (sv := h1.1) h.cell ⟨v, rfl⟩
  have hpv1 : ∃ s : SlV, pv = s.v := ⟨⟨_, _, _⟩, epv⟩
  obtain ⟨w2, E2, c2, t2⟩ := st_past (s2 := ⟨some ⟨g, 0, none⟩, D.length, cap⟩) c1 hpv1
  have tt : Tch (fun j => j = d) w w2 := t1.trans' t2 (fun j _ e => e)
  have ks : ∀ {j : Nat} {c : Array Value} {ty : TypeId} {f : Nat × Nat}, w.heap[j]? = some (.cells c ty f) → ty ≠ 95 → w2.heap[j]? = w.heap[j]? := fun hj hne => tt.block _ (Array.getElem?_eq_some_iff.1 hj).1 (fun e => by rw [e] at hj; exact hne (two_types hj h.cell))
  have kR : ∀ {u : Value} {Z : List (PlK × SlV)}, RT.Own w B u Z → RT.Own w2 B u Z := fun hu => hu.keep (fun j hj => by
    obtain ⟨_, c4, hc4⟩ := hu.cells hj
    exact ks hc4 (by decide))
  have kS : ∀ {Z : Sls}, SlsAt w B Z → SlsAt w2 B Z := fun hZ q hq => ⟨(hZ q hq).1.keep (fun j hj => by
    obtain ⟨_, c4, hc4⟩ := (hZ q hq).1.cells hj
    exact ks hc4 (by decide)), (hZ q hq).2⟩
  have FIN : Hid (∃ pv2, RfP B w2 d h1.2 h1.1 pv2 D ∧ Tch (fun j => j = d) w w2 ∧ pv2.ownBlock = pv.ownBlock) := by
    have hh := h.ph h1 (by simp)
    have hap := h.ap2
    rw [List.pairwise_append] at hap
    refine ⟨.slice (some ⟨g, 0, none⟩) D.length cap, ⟨c2, kR hh.1, kS hh.2.1, ⟨by simp, .inr ⟨g, cap, cur, by simp, hbg, (ks hg (by decide)).trans hg, by rw [List.length_map]; omega, hcm, hcs, ?_⟩⟩, fun q hq => ?_, h.dB, fun q hq j hj => hap.2.2 q hq h1 (by simp) j hj, hap.1, hh.2.2⟩, tt, by rw [epv]; rfl⟩
    · rw [List.length_map, Nat.mul_one]
      have h3 := congrArg (List.take D.length) htake
      rw [List.take_take, Nat.min_eq_left (by omega)] at h3
      rw [h3, List.map_append, List.take_left' (by simp)]
    · have := h.ph q (by simp [hq])
      exact ⟨kR this.1, kS this.2.1, this.2.2⟩
  obtain ⟨k, hk⟩ : ∃ k, D.length = k := ⟨_, rfl⟩
  have L1 : Hid ((Instr.loadAt 93 (.pointer (some ⟨d, 0 + 1, none⟩))).run Tryz.prog w = .ok (.slice (some ⟨g, 0, none⟩) (k + 1) cap) w) := by
    have hc := h.cell
    rw [epv, hk] at hc
    exact ld_past (s := ⟨some ⟨g, 0, none⟩, k + 1, cap⟩) hc
  have L2 : Hid ((Instr.loadAt 92 (.pointer (some ⟨g, 0 + k, none⟩))).run Tryz.prog w = .ok h1.1.v w) := by
    rw [hk] at hcell
    rw [Nat.zero_add]
    exact ld_slv hcell
  have L3 : Hid ((Instr.loadAt 93 (.pointer (some ⟨d, 0 + 1, none⟩))).run Tryz.prog w1 = .ok (.slice (some ⟨g, 0, none⟩) (k + 1) cap) w1) := by
    have hc := c1
    rw [epv, hk] at hc
    exact ld_past (s := ⟨some ⟨g, 0, none⟩, k + 1, cap⟩) hc
  have cc : w.cell? ⟨d, 1, none⟩ = some (.slice (some ⟨g, 0, none⟩) (k + 1) cap) := by
    have hc := h.cell
    rw [epv, hk] at hc
    exact (cell_of_row w d 1 _ _ _ hc).trans rfl
  have HE1 := hidMk E1
  have HE2 : Hid ((Instr.storeAt 93 (.pointer (some ⟨d, 0 + 1, none⟩)) (.slice (some ⟨g, 0, none⟩) k cap)).run Tryz.prog w1 = .ok () w2) := by rw [← hk]; exact E2
  have hkc : k ≤ cap := by omega
  rw [hk] at hn ⊢
  clear h hp E1 E2 c1 c2 t1 t2 tt ks kR kS hpv1 gd hcell htake hg epv hnc hcs hcm hbg hlen hk
  have hne : ((k : Int) + 1 != (k : Int) + 1) = false := by simp
  have hlt : ¬ ((k : Int) + 1 < 1) := by omega
  go_enter Tryz.func58, Tryz.ntmps58
  obtain ⟨n, hkn⟩ : ∃ n, k + 1 = n := ⟨_, rfl⟩
  rw [hkn] at cc L1 L3 ⊢
  have hne2 : ((n : Int) != (n : Int)) = false := by simp
  have hlt2 : ¬ ((n : Int) < 1) := by omega
  clear hne hlt
  go_upto_region 5 with fail
  clear cc hne2 hlt2
  refine run5 (d := d) (g := g) (o := 0) (n := n) (c := cap) (k := k) (u := h1.1.v) (w1 := w1) _ w _ rfl rfl rfl hkn (by omega) (by omega) (by omega) (fun W e => by rw [e]; exact L1.out) (fun W e => by rw [e]; exact L2.out) HE1.out ?_
  intro a' w3 hf ha
  subst ha
  obtain rfl : w1 = w3 := hf.symm
  simp only [Act.put, List.setIfInBounds_toArray, List.set_cons_zero, List.set_cons_succ]
  clear L1 L2 HE1
  go_upto_region 6 with fail
  refine run6 (d := d) (g := g) (o := 0) (n := n) (c := cap) (k := k) (pv2 := .slice (some ⟨g, 0, none⟩) k cap) (w1 := w2) _ w1 _ rfl rfl rfl hkn (by omega) (fun W e => by rw [e]; exact L3.out) (fun W => sl_ps hkc W) HE2.out ?_
  intro a' w3 hf ha
  subst ha
  obtain rfl : w2 = w3 := hf.symm
  simp only [Act.put, List.setIfInBounds_toArray, List.set_cons_zero, List.set_cons_succ]
  clear L3 HE2
  go_wp2
  go_ret
  exact ⟨rfl, FIN.out⟩
theorem rf_top {B : Nat} {w : World} {d : Nat} {X : Sls} {v : SlV} {pv : Value} {D : List (SlV × Sls)} (h : RfP B w d X v pv D) (hn : X.length ≤ 1100000000000) {p : PlK} (hp : p.ok) :
    Calls Tryz.prog 56 #[.pointer (some ⟨d, 0, none⟩), p.v] w fun e w' => e = .returned (.tuple #[((entF X p).getLast?.getD zEn).a, .bool (!(entF X p).isEmpty)]) ∧ Below w.heap.size w w' := by
  obtain ⟨w1, E1, n1, b1⟩ := box_pl w p
  obtain ⟨w2, E2, n2, b2⟩ := en_box w1
  have b12 := b1.trans (b2.mono b1.size)
  have n12 := (b2.block _ (Array.getElem?_eq_some_iff.1 n1).1).trans n1
  have CE := hidMk (rf_entries (h.below b12) hn hp)
  obtain ⟨ek, eln⟩ := ent_facts h.en p
  have H1 := hidMk E1
  have H2 := hidMk E2
  have LP := hidMk (ld_pl hp (rng_cells n12))
  have HB := hidMk (And.intro b12 (And.intro n2 b1))
  obtain ⟨L, hL⟩ : ∃ L, entF X p = L := ⟨_, rfl⟩
  rw [hL] at ek eln CE ⊢
  clear h E1 E2 b1 b2 b12 n1 n2 n12 hL
  go_enter Tryz.func56, Tryz.ntmps56
  go_upto_region 1 with (first
    | (refine wpList_run rfl (exec_boxE (t := 68) (v := p.v) (u := .pointer (some ⟨w.heap.size, 0, none⟩)) (w2 := w1) rfl rfl H1.out) ?_)
    | (refine wpList_run rfl (exec_alloc (w2 := w2) rfl H2.out) ?_)
    | fail)
  refine rto1 (d := d) (pb := w.heap.size) (p := p) (fun u w' => RN.Own w' w2.heap.size u L ∧ Below w2.heap.size w2 w') _ w2 _ rfl rfl rfl (fun W e => by rw [e]; exact LP.out) CE.out ?_
  intro u a' w3 hf ha
  subst ha
  simp only [Act.put, List.setIfInBounds_toArray, List.set_cons_zero, List.set_cons_succ]
  obtain ⟨oa, oc, eo, hat, _⟩ := hf.1.open RN_is ek
  subst eo
  have bx3 : RN.Bx w3 w1.heap.size zEn := HB.out.2.1.below hf.2
  have bel3 : Below w.heap.size w w3 := HB.out.1.trans (hf.2.mono HB.out.1.size)
  have z1 : w.heap.size ≤ w1.heap.size := HB.out.2.2.size
  rcases List.eq_nil_or_concat L with rfl | ⟨M, z, hMz⟩
  · obtain ⟨w4, E4, n4, t4⟩ := en_put zEn_ok zEn_ok bx3
    have HE := hidMk E4
    have HF := hidMk (And.intro n4 (bel3.trans (t4.below bel3.size (fun j e => by rw [e]; exact z1))))
    clear E4 n4 t4 bx3 bel3 hf hat CE LP H1 H2 ek eln
    go_upto_region 3 with fail
    refine rto3 (eb := w1.heap.size) (w1 := w4) _ w3 _ rfl rfl HE.out ?_
    intro a' w5 hf ha
    subst ha
    obtain rfl : w4 = w5 := hf.symm
    simp only [Act.put, List.setIfInBounds_toArray, List.set_cons_zero, List.set_cons_succ]
    clear HE
    go_wp2
    refine bodyPost_ret (results_c2 rfl rfl (loadVar_en zEn_ok HF.out.1)) rfl ?_
    exact ⟨rfl, HF.out.2⟩
  · rw [List.concat_eq_append] at hMz
    subst hMz
    have hz : z.ok := ek z (by simp)
    have e1 : (M ++ [z]).getLast?.getD zEn = z := by simp
    have e2 : (!(M ++ [z]).isEmpty) = true := by simp
    have E12 := hidMk (And.intro e1 e2)
    obtain ⟨g, o, rfl, lg, hr⟩ : ∃ g o, oa = some ⟨g, o, none⟩ ∧ g < w3.heap.size ∧ w3.rangeAt g (o + 37 * M.length) z.c := by
      rcases hat with h | ⟨g, o, e, h1, h2⟩
      · simp at h
      · exact ⟨g, o, e, h1, h2 M.length z (by simp)⟩
    obtain ⟨w4, E4, n4, t4⟩ := en_put zEn_ok hz bx3
    have HE := hidMk E4
    have HF := hidMk (And.intro n4 (bel3.trans (t4.below bel3.size (fun j e => by rw [e]; exact z1))))
    have LX := hidMk (ld_en hz hr)
    obtain ⟨n, hnn⟩ : ∃ n, (M ++ [z]).length = n := ⟨_, rfl⟩
    have hd : M.length + 1 = n := by rw [← hnn]; simp
    rw [hnn] at eln ⊢
    have hpos : ((n : Int) == 0) = false := by simp; omega
    clear E4 n4 t4 bx3 bel3 hf hat CE LP H1 H2 ek hr lg e1 e2 hnn
    go_upto_region 4 with fail
    clear hpos
    refine rto4 (eb := w1.heap.size) (g := g) (o := o) (n := n) (lc := oc) (d := M.length) (x := z) (w1 := w4) _ w3 _ rfl rfl rfl hd (by omega) (by omega) (by omega) (fun W e => by rw [e]; exact LX.out) HE.out ?_
    intro a' w5 hf ha
    subst ha
    obtain rfl : w4 = w5 := hf.symm
    simp only [Act.put, List.setIfInBounds_toArray, List.set_cons_zero, List.set_cons_succ]
    clear HE LX
    go_wp2
    refine bodyPost_ret (results_c2 rfl rfl (loadVar_en hz HF.out.1)) rfl ?_
    refine ⟨?_, HF.out.2⟩
    rw [E12.out.2]
    rfl
end Go.Proofs.YtldlljobofnmmaaGreatDoor
namespace Go.Proofs.YtldlljobofnmmaaGreatDoor
open Go.Shelf
def keysA_ren : Go.Shelf.Ren := ⟨fun | 7 => 31 | 10 => 78 | n => n, fun | 23 => 106 | 26 => 9 | 3 => 107 | 28 => 104 | 0 => 0 | 27 => 103 | 33 => 128 | 4 => 4 | n => n, fun | n => n⟩
theorem keysA : Go.Proofs.SlLaysZ.n7 Tryz.prog keysA_ren := {
  mixed := by kernel_rfl
  f7 := ⟨Tryz.f31.name, by decide, Tryz.func31.trans (congrArg some (by kernel_rfl))⟩
  f10 := ⟨Tryz.f78.name, by decide, Tryz.func78.trans (congrArg some (by kernel_rfl))⟩
  t0 := Tryz.underlying0
  a0 := Tryz.isAgg0
  z0 := Tryz.sizeOf0
  v0 := Tryz.zeroValue0
  t4 := Tryz.underlying4
  a4 := Tryz.isAgg4
  z4 := Tryz.sizeOf4
  v4 := Tryz.zeroValue4
  t23 := Tryz.underlying106
  a23 := Tryz.isAgg106
  z23 := Tryz.sizeOf106
  v23 := Tryz.zeroValue106
  t26 := Tryz.underlying9
  a26 := Tryz.isAgg9
  z26 := Tryz.sizeOf9
  v26 := Tryz.zeroValue9
  t27 := Tryz.underlying103
  a27 := Tryz.isAgg103
  z27 := Tryz.sizeOf103
  v27 := Tryz.zeroValue103
  t28 := Tryz.underlying104
  a28 := Tryz.isAgg104
  z28 := Tryz.sizeOf104
  v28 := Tryz.zeroValue104
  t33 := Tryz.underlying128
  a33 := Tryz.isAgg128
  z33 := Tryz.sizeOf128
  v33 := Tryz.zeroValue128 }
def sortedA_ren : Go.Shelf.Ren := ⟨fun | 6 => 30 | 8 => 76 | 9 => 77 | 11 => 85 | 13 => 87 | 12 => 86 | 23 => 101 | 24 => 102 | 14 => 92 | 15 => 93 | 16 => 94 | 17 => 95 | 18 => 96 | 19 => 97 | 20 => 98 | 21 => 99 | 22 => 100 | 25 => 108 | 26 => 109 | 27 => 110 | 28 => 111 | 29 => 112 | 30 => 113 | 31 => 116 | n => n, fun | 26 => 9 | 28 => 104 | 24 => 74 | 0 => 0 | 3 => 3 | 37 => 131 | 48 => 195 | 50 => 182 | 4 => 4 | 40 => 187 | 39 => 186 | 45 => 192 | 5 => 5 | 9 => 9 | 51 => 204 | 55 => 208 | 57 => 212 | 58 => 213 | 33 => 128 | n => n, fun | n => n⟩
theorem sortedA : Go.Proofs.SlLaysZ.n6 Tryz.prog sortedA_ren := {
  mixed := by kernel_rfl
  f6 := ⟨Tryz.f30.name, by decide, Tryz.func30.trans (congrArg some (by kernel_rfl))⟩
  f8 := ⟨Tryz.f76.name, by decide, Tryz.func76.trans (congrArg some (by kernel_rfl))⟩
  f11 := ⟨Tryz.f85.name, by decide, Tryz.func85.trans (congrArg some (by kernel_rfl))⟩
  t0 := Tryz.underlying0
  a0 := Tryz.isAgg0
  z0 := Tryz.sizeOf0
  v0 := Tryz.zeroValue0
  t24 := Tryz.underlying74
  a24 := Tryz.isAgg74
  z24 := Tryz.sizeOf74
  v24 := Tryz.zeroValue74
  t26 := Tryz.underlying9
  a26 := Tryz.isAgg9
  z26 := Tryz.sizeOf9
  v26 := Tryz.zeroValue9
  t28 := Tryz.underlying104
  a28 := Tryz.isAgg104
  z28 := Tryz.sizeOf104
  v28 := Tryz.zeroValue104
  i26 := by kernel_rfl }
def sortA_ren : Go.Shelf.Ren := ⟨fun | 6 => 77 | 8 => 87 | 9 => 86 | 19 => 101 | 20 => 102 | 21 => 92 | 22 => 93 | 23 => 94 | 24 => 95 | 25 => 96 | 26 => 97 | 27 => 98 | 28 => 99 | 29 => 100 | 36 => 108 | 31 => 109 | 32 => 110 | 37 => 111 | 38 => 112 | 39 => 113 | 41 => 116 | n => n, fun | 27 => 74 | 29 => 9 | 3 => 3 | 32 => 131 | 26 => 74 | 0 => 0 | 44 => 195 | 46 => 182 | 4 => 4 | 36 => 187 | 35 => 186 | 41 => 192 | 5 => 5 | 9 => 9 | 53 => 204 | 57 => 208 | 63 => 212 | 64 => 213 | n => n, fun | n => n⟩
theorem sortA : Go.Proofs.SlLaysM.n6 Tryz.prog sortA_ren := {
  mixed := by kernel_rfl
  f6 := ⟨Tryz.f77.name, by decide, Tryz.func77.trans (congrArg some (by kernel_rfl))⟩
  f8 := Tryz.func87.trans (congrArg some (by kernel_rfl))
  f9 := ⟨Tryz.f86.name, by decide, Tryz.func86.trans (congrArg some (by kernel_rfl))⟩
  f19 := Tryz.func101.trans (congrArg some (by kernel_rfl))
  f20 := Tryz.func102.trans (congrArg some (by kernel_rfl))
  f21 := ⟨Tryz.f92.name, by decide, Tryz.func92.trans (congrArg some (by kernel_rfl))⟩
  f22 := ⟨Tryz.f93.name, by decide, Tryz.func93.trans (congrArg some (by kernel_rfl))⟩
  f23 := ⟨Tryz.f94.name, by decide, Tryz.func94.trans (congrArg some (by kernel_rfl))⟩
  f24 := ⟨Tryz.f95.name, by decide, Tryz.func95.trans (congrArg some (by kernel_rfl))⟩
  f25 := ⟨Tryz.f96.name, by decide, Tryz.func96.trans (congrArg some (by kernel_rfl))⟩
  f26 := ⟨Tryz.f97.name, by decide, Tryz.func97.trans (congrArg some (by kernel_rfl))⟩
  f27 := ⟨Tryz.f98.name, by decide, Tryz.func98.trans (congrArg some (by kernel_rfl))⟩
  f28 := ⟨Tryz.f99.name, by decide, Tryz.func99.trans (congrArg some (by kernel_rfl))⟩
  f29 := ⟨Tryz.f100.name, by decide, Tryz.func100.trans (congrArg some (by kernel_rfl))⟩
  f31 := Tryz.func109.trans (congrArg some (by kernel_rfl))
  f32 := Tryz.func110.trans (congrArg some (by kernel_rfl))
  f36 := ⟨Tryz.f108.name, by decide, Tryz.func108.trans (congrArg some (by kernel_rfl))⟩
  f37 := ⟨Tryz.f111.name, by decide, Tryz.func111.trans (congrArg some (by kernel_rfl))⟩
  f38 := ⟨Tryz.f112.name, by decide, Tryz.func112.trans (congrArg some (by kernel_rfl))⟩
  f39 := ⟨Tryz.f113.name, by decide, Tryz.func113.trans (congrArg some (by kernel_rfl))⟩
  f41 := ⟨Tryz.f116.name, by decide, Tryz.func116.trans (congrArg some (by kernel_rfl))⟩
  t0 := Tryz.underlying0
  a0 := Tryz.isAgg0
  z0 := Tryz.sizeOf0
  v0 := Tryz.zeroValue0
  t3 := Tryz.underlying3
  a3 := Tryz.isAgg3
  z3 := Tryz.sizeOf3
  v3 := Tryz.zeroValue3
  t4 := Tryz.underlying4
  a4 := Tryz.isAgg4
  z4 := Tryz.sizeOf4
  v4 := Tryz.zeroValue4
  t5 := Tryz.underlying5
  a5 := Tryz.isAgg5
  z5 := Tryz.sizeOf5
  v5 := Tryz.zeroValue5
  t9 := Tryz.underlying9
  a9 := Tryz.isAgg9
  z9 := Tryz.sizeOf9
  v9 := Tryz.zeroValue9
  t26 := Tryz.underlying74
  a26 := Tryz.isAgg74
  z26 := Tryz.sizeOf74
  v26 := Tryz.zeroValue74
  t27 := Tryz.underlying74
  a27 := Tryz.isAgg74
  z27 := Tryz.sizeOf74
  v27 := Tryz.zeroValue74
  t29 := Tryz.underlying9
  a29 := Tryz.isAgg9
  z29 := Tryz.sizeOf9
  v29 := Tryz.zeroValue9
  t32 := Tryz.underlying131
  a32 := Tryz.isAgg131
  z32 := Tryz.sizeOf131
  v32 := Tryz.zeroValue131
  t35 := Tryz.underlying186
  a35 := Tryz.isAgg186
  z35 := Tryz.sizeOf186
  v35 := Tryz.zeroValue186
  t36 := Tryz.underlying187
  a36 := Tryz.isAgg187
  z36 := Tryz.sizeOf187
  v36 := Tryz.zeroValue187
  t41 := Tryz.underlying192
  a41 := Tryz.isAgg192
  z41 := Tryz.sizeOf192
  v41 := Tryz.zeroValue192
  t44 := Tryz.underlying195
  a44 := Tryz.isAgg195
  z44 := Tryz.sizeOf195
  v44 := Tryz.zeroValue195
  t46 := Tryz.underlying182
  a46 := Tryz.isAgg182
  z46 := Tryz.sizeOf182
  v46 := Tryz.zeroValue182
  t53 := Tryz.underlying204
  a53 := Tryz.isAgg204
  z53 := Tryz.sizeOf204
  v53 := Tryz.zeroValue204
  t57 := Tryz.underlying208
  a57 := Tryz.isAgg208
  z57 := Tryz.sizeOf208
  v57 := Tryz.zeroValue208
  t63 := Tryz.underlying212
  a63 := Tryz.isAgg212
  z63 := Tryz.sizeOf212
  v63 := Tryz.zeroValue212
  t64 := Tryz.underlying213
  a64 := Tryz.isAgg213
  z64 := Tryz.sizeOf213
  v64 := Tryz.zeroValue213 }
end Go.Proofs.YtldlljobofnmmaaGreatDoor
namespace Go.Proofs.YtldlljobofnmmaaGreatDoor
open Go.RowKit
set_option linter.unusedVariables false
set_option linter.unusedSimpArgs false
theorem ix_txs {b o m c i : Nat} (hi : i < m) (hm : m ≤ 9223372036854775807) (W : World) : (Instr.indexAt 74 (.slice (some ⟨b, o, none⟩) m c) (.int .i64 (i : Int))).run Tryz.prog W = .ok (.pointer (some ⟨b, o + i, none⟩)) W := by
  go_simp
theorem ex_netx {w : World} {a : Act} {o : Oper} {x y : Operand} {s : ByteArray} (ho : o.op = .binOp .neq 9 x y 9) (hx : a.eval x = .string s) (hy : a.eval y = .string s) : (execOp a.eval o).run Tryz.prog w = .ok (.value (.bool false)) w := by
  refine exec_binOp ho hx hy ?_ ?_
  · kernel_rfl
  · have : (s.toList != s.toList) = false := by simp
    go_simp
def key3_o0 : Oper := ⟨some 7, .move (.tmp 0), 26, "regs.go:158", #[], none⟩
def key3_o1 : Oper := ⟨some 8, .nilCheck (.tmp 7), 0, "regs.go:158", #[⟨0, .data⟩], none⟩
def key3_o2 : Oper := ⟨some 9, .fieldAddr 91 (.tmp 8) 1, 0, "regs.go:158", #[⟨1, .data⟩], none⟩
def key3_o3 : Oper := ⟨some 10, .load 89 (.tmp 9), 89, "regs.go:158", #[⟨2, .data⟩], none⟩
def key3_o4 : Oper := ⟨some 11, .load 59 (.tmp 3), 59, "regs.go:158", #[], none⟩
def key3_o5 : Oper := ⟨some 12, .lookup 89 (.tmp 10) (.tmp 11) false, 106, "regs.go:158", #[⟨3, .data⟩, ⟨4, .data⟩], none⟩
def key3_o6 : Oper := ⟨some 13, .call { callee := Callee.value (Operand.func 31), args := #[.tmp 12], argTypes := #[106] }, 104, "regs.go:158", #[⟨5, .data⟩], none⟩
def key3_o7 : Oper := ⟨some 14, .call { callee := Callee.value (Operand.func 30), args := #[.tmp 13], argTypes := #[104] }, 74, "regs.go:158", #[⟨6, .data⟩, ⟨6, .chain⟩], none⟩
def key3_o8 : Oper := ⟨some 4, .assign (.tmp 14), 74, "regs.go:158", #[⟨7, .data⟩, ⟨7, .chain⟩, ⟨0, .phase⟩, ⟨1, .phase⟩, ⟨2, .phase⟩, ⟨3, .phase⟩, ⟨4, .phase⟩, ⟨5, .phase⟩, ⟨6, .phase⟩, ⟨7, .phase⟩], none⟩
def key3_ops : Array Oper := #[key3_o0, key3_o1, key3_o2, key3_o3, key3_o4, key3_o5, key3_o6, key3_o7, key3_o8]
theorem key3 {rb mb ob : Nat} {y : IdK} {mv : Value} (S : World → Prop) (Fin : Value → World → Prop) (a : Act) (w : World) (Q : Exit → Act → World → Prop) (zz : a.tmps.size = 15)
    (t0 : a.tmps.getD 0 undef = .pointer (some ⟨rb, 0, none⟩))
    (t3 : a.tmps.getD 3 undef = .pointer (some ⟨ob, 0, none⟩))
    (h0 : S w.drew) (L1 : ∀ W, S W → (Instr.loadAt 89 (.pointer (some ⟨rb, 0 + 1, none⟩))).run Tryz.prog W = .ok (.map (some mb)) W) (L2 : ∀ W, S W → (Instr.loadAt 59 (.pointer (some ⟨ob, 0, none⟩))).run Tryz.prog W = .ok (y.v) W) (LK : ∀ W, S W → (Instr.lookup 89 (.map (some mb)) y.v false).run Tryz.prog W = .ok mv W) (CK : Calls Tryz.prog 31 #[mv] w.drew fun e w1 => ∃ fv, e = .returned fv ∧ S w1 ∧ Calls Tryz.prog 30 #[fv] w1 fun e w' => ∃ u, e = .returned u ∧ S w' ∧ Fin u w')
    (h : ∀ (fv u : Value) (a' : Act) (w' : World), Fin u w' → a' = (((((((((a).put (some 7) (.pointer (some ⟨rb, 0, none⟩))).put (some 8) (.pointer (some ⟨rb, 0, none⟩))).put (some 9) (.pointer (some ⟨rb, 0 + 1, none⟩))).put (some 10) (.map (some mb))).put (some 11) (y.v)).put (some 12) (mv)).put (some 13) (fv)).put (some 14) (u)).put (some 4) (u) → Q .normal a' w') :
    (Code.region 3 key3_ops true).wp Tryz.prog Q a w := by
  refine y0 (fun w' => S w') (h0) (fun hHeld => ?_)
  refine yv 0 rfl rfl (fun w1 hw => exec_move rfl (zi t0 rfl)) hHeld ?_
  refine yv 1 rfl rfl (fun w1 hw => exec_nilCheck rfl (zg zz rfl)) hHeld ?_
  refine yv 2 rfl rfl (fun w1 hw => exec_fieldAt rfl (zg zz rfl) (fg_91_1 _ _ _)) hHeld ?_
  refine yv 3 rfl rfl (fun w1 hw => exec_load rfl (zg zz rfl) (L1 _ hw)) hHeld ?_
  refine yv 4 rfl rfl (fun w1 hw => exec_load rfl (zi t3 rfl) (L2 _ hw)) hHeld ?_
  refine yv (v := mv) 5 rfl rfl (fun w1 hw => exec_lookup rfl (zg zz rfl) (zg zz rfl) (LK _ hw)) hHeld ?_
  refine yc 6 rfl rfl (exec_c1 rfl (zg zz rfl)) (CK) (fun e x6 hx => ?_)
  obtain ⟨fv, rfl, S1, CS⟩ := hx
  replace h := h fv
  refine ⟨_, rfl, S1, fun hHeld => ?_⟩
  refine yc 7 rfl rfl (exec_c1 rfl (zg zz rfl)) (CS) (fun e x7 hx => ?_)
  obtain ⟨u, rfl, S2, HF⟩ := hx
  replace h := h u
  refine ⟨_, rfl, S2, fun hHeld => ?_⟩
  refine yv 8 rfl rfl (fun w1 hw => exec_assign rfl (zg zz rfl)) hHeld ?_
  exact ye rfl (h _ _ (HF) rfl)
def smt6_o0 : Oper := ⟨some 17, .move (.tmp 0), 74, "mem.go:153", #[], none⟩
def smt6_o1 : Oper := ⟨some 18, .move (.tmp 5), 3, "mem.go:153", #[], none⟩
def smt6_o2 : Oper := ⟨some 19, .indexAddr 74 (.tmp 17) (.tmp 18), 0, "mem.go:153", #[⟨0, .data⟩, ⟨1, .data⟩], none⟩
def smt6_o3 : Oper := ⟨some 20, .load 9 (.tmp 19), 9, "mem.go:153", #[⟨2, .data⟩], none⟩
def smt6_o4 : Oper := ⟨some 21, .move (.tmp 1), 74, "mem.go:153", #[], none⟩
def smt6_o5 : Oper := ⟨some 22, .move (.tmp 5), 3, "mem.go:153", #[], none⟩
def smt6_o6 : Oper := ⟨some 23, .indexAddr 74 (.tmp 21) (.tmp 22), 0, "mem.go:153", #[⟨4, .data⟩, ⟨5, .data⟩], none⟩
def smt6_o7 : Oper := ⟨some 24, .load 9 (.tmp 23), 9, "mem.go:153", #[⟨6, .data⟩], none⟩
def smt6_o8 : Oper := ⟨some 25, .binOp BinOp.neq 9 (.tmp 20) (.tmp 24) 9, 4, "mem.go:153", #[⟨3, .data⟩, ⟨7, .data⟩], none⟩
def smt6_ops : Array Oper := #[smt6_o0, smt6_o1, smt6_o2, smt6_o3, smt6_o4, smt6_o5, smt6_o6, smt6_o7, smt6_o8]
theorem smt6 {g o n c g2 o2 d i : Nat} {s : ByteArray} (a : Act) (w : World) (Q : Exit → Act → World → Prop) (zz : a.tmps.size = 26)
    (t0 : a.tmps.getD 0 undef = .slice (some ⟨g, o, none⟩) n c)
    (t1 : a.tmps.getD 1 undef = .slice (some ⟨g2, o2, none⟩) n d)
    (t5 : a.tmps.getD 5 undef = .int .i64 (i : Int))
    (hi : i < n) (hm : n ≤ 9223372036854775807) (L1 : ∀ W, W = w.drew → (Instr.loadAt 9 (.pointer (some ⟨g, o + i, none⟩))).run Tryz.prog W = .ok (.string s) W) (L2 : ∀ W, W = w.drew → (Instr.loadAt 9 (.pointer (some ⟨g2, o2 + i, none⟩))).run Tryz.prog W = .ok (.string s) W)
    (h : ∀ (a' : Act) (w' : World), w' = w.drew → a' = (((((((((a).put (some 17) (.slice (some ⟨g, o, none⟩) n c)).put (some 18) (.int .i64 (i : Int))).put (some 19) (.pointer (some ⟨g, o + i, none⟩))).put (some 20) (.string s)).put (some 21) (.slice (some ⟨g2, o2, none⟩) n d)).put (some 22) (.int .i64 (i : Int))).put (some 23) (.pointer (some ⟨g2, o2 + i, none⟩))).put (some 24) (.string s)).put (some 25) (.bool false) → Q .normal a' w') :
    (Code.region 6 smt6_ops true).wp Tryz.prog Q a w := by
  refine y0 (fun w' => w' = w.drew) (rfl) (fun hHeld => ?_)
  refine yv 0 rfl rfl (fun w1 hw => exec_move rfl (zi t0 rfl)) hHeld ?_
  refine yv 1 rfl rfl (fun w1 hw => exec_move rfl (zi t5 rfl)) hHeld ?_
  refine yv 2 rfl rfl (fun w1 hw => exec_indexAt rfl (zg zz rfl) (zg zz rfl) (ix_txs hi hm _)) hHeld ?_
  refine yv 3 rfl rfl (fun w1 hw => exec_load rfl (zg zz rfl) (L1 _ hw)) hHeld ?_
  refine yv 4 rfl rfl (fun w1 hw => exec_move rfl (zi t1 rfl)) hHeld ?_
  refine yv 5 rfl rfl (fun w1 hw => exec_move rfl (zi t5 rfl)) hHeld ?_
  refine yv 6 rfl rfl (fun w1 hw => exec_indexAt rfl (zg zz rfl) (zg zz rfl) (ix_txs hi hm _)) hHeld ?_
  refine yv 7 rfl rfl (fun w1 hw => exec_load rfl (zg zz rfl) (L2 _ hw)) hHeld ?_
  refine yv (v := .bool false) 8 rfl rfl (fun w1 hw => ex_netx rfl (zg zz rfl) (zg zz rfl)) hHeld ?_
  exact ye rfl (h _ _ (hHeld) rfl)
end Go.Proofs.YtldlljobofnmmaaGreatDoor
namespace Go.Proofs.YtldlljobofnmmaaGreatDoor
open Go.RowKit Go.Maps Go.Sort Go.Shelf
set_option linter.unusedVariables false
set_option linter.unusedSimpArgs false
theorem sortsA (m : Nat) : AnyZ.SortsIn Tryz.prog sortedA_ren Fence.wide m :=
  ⟨fun blk off cap ss W hH hblk hsz => callsIn_wide.2 (AnyM.slices_Sort_string sortA blk off cap ss W hH hblk hsz),
   fun p cap W => callsIn_wide.2 (AnyM.slices_Sort_string_none sortA p cap W)⟩
def srtT (l : List ByteArray) : List (List UInt8) := (l.map (·.data.toList)).mergeSort leB
theorem srtT_perm {l l' : List ByteArray} (h : l.Perm l') : srtT l = srtT l' := mergeSort_of_perm (h.map _)
theorem srtT_len (l : List ByteArray) : (srtT l).length = l.length := by simp [srtT]
def keyL (K : List (IdK × (Nat × List ByteArray))) (o : IdK) : List ByteArray := ((M.look K o).map (·.2)).getD []
def nilR : Value → Option (DataW Unit × List MemPlace) := fun _ => some (.nil, [])
theorem own_keys {w : World} {b : Nat} {l : List ByteArray} (h : M.MapAt w b tx txOk (entS l)) (hl : l.length ≤ maxLen) : ∃ D0 : DataW Unit, w.ownsMap Tryz.prog 9 nilR b l.length D0 ∧ (strKeys D0).Perm (l.map (·.data.toList)) ∧ Maps.size D0 = l.length := by
  obtain ⟨⟨es, clock, hb, hm, hst⟩, nd, hv⟩ := h
  have hk : es.toList.map (·.key) = l.map tx := by
    have := congrArg (List.map (·.1)) hm
    rw [List.map_map, List.map_map] at this
    have e1 : (entS l).map ((fun x => x.1) ∘ fun p => (tx p.1, p.2)) = l.map tx := by simp [entS, M.onV, Function.comp_def]
    rw [e1] at this
    exact this
  have hlen : es.size = l.length := by
    have := congrArg List.length hk
    simpa using this
  have hnd : l.Nodup := by
    have e1 : (entS l).map (·.1) = l := by simp [entS, M.onV, Function.comp_def]
    rw [e1] at nd
    exact nd
  have hkey : ∀ x ∈ es.toList, ∃ k ∈ l, x.key = .string k ∧ k.size ≤ maxLen := fun x hx => by
    have : x.key ∈ l.map tx := by rw [← hk]; exact List.mem_map.2 ⟨x, hx, rfl⟩
    obtain ⟨k, hkl, e⟩ := List.mem_map.1 this
    refine ⟨k, hkl, e.symm, ?_⟩
    have := hv (k, .agg #[]) (by simp [entS, M.onV]; exact hkl)
    exact this
  have hrd : ∀ x ∈ es.toList, ∀ k : ByteArray, x.key = .string k → k.size ≤ maxLen → Go.WideElems.rd Tryz.prog 9 nilR x = some (.string k.data.toList, .nil) := fun x hx k e hs => by
    unfold Go.WideElems.rd
    rw [e, Go.WideMaps.keyOf_string_mk Tryz.underlying9 hs]
    rfl
  refine ⟨.map ((es.toList.map (Go.WideElems.rg Tryz.prog 9 nilR)).foldr DataW.insert []), ⟨es, clock, hb, ⟨by rw [hlen]; exact hl, ⟨fun x hx => hst.1 _ (List.mem_map.2 ⟨x, hx, rfl⟩), hst.2, ?_⟩, fun x hx => ?_⟩, Nat.le_of_eq hlen, rfl⟩, ?_, ?_⟩
  · rw [hk]
    exact hnd.map (f := tx) (fun a b h e => h (by injection e))
  · obtain ⟨k, _, e, hs⟩ := hkey x hx
    exact ⟨_, hrd x hx k e hs⟩
  · show (((es.toList.map (Go.WideElems.rg Tryz.prog 9 nilR)).foldr DataW.insert []).map fun p => strOf p.1).Perm _
    refine (List.Perm.map _ (Go.WideShapes.sorted_perm _)).trans ?_
    rw [List.map_map]
    have : ∀ x ∈ es.toList, ((fun p : Lit × DataW Unit => strOf p.1) ∘ Go.WideElems.rg Tryz.prog 9 nilR) x = (match x.key with | .string k => k.data.toList | _ => []) := fun x hx => by
      obtain ⟨k, _, e, hs⟩ := hkey x hx
      have hrg : Go.WideElems.rg Tryz.prog 9 nilR x = (.string k.data.toList, .nil) := by
        unfold Go.WideElems.rg
        rw [hrd x hx k e hs]
        rfl
      rw [Function.comp_apply, hrg, e]
      rfl
    refine List.Perm.trans (List.Perm.of_eq (List.map_congr_left this)) ?_
    have e2 : es.toList.map (fun x => match x.key with | .string k => k.data.toList | _ => []) = (es.toList.map (·.key)).map (fun v => match v with | .string k => k.data.toList | _ => []) := by rw [List.map_map]; rfl
    rw [e2, hk, List.map_map]
    exact List.Perm.refl _
  · show ((es.toList.map (Go.WideElems.rg Tryz.prog 9 nilR)).foldr DataW.insert []).length = l.length
    rw [(Go.WideShapes.sorted_perm _).length_eq, List.length_map]
    simpa using hlen
theorem enc_own {w : World} {base : Nat} {v : Value} {ss : List (List UInt8)} {n : Nat} (hn : n = ss.length) (h : w.ownsRow base 9 1 v n (ss.map encStr)) : OwnV w base 9 v (ss.map encStr) := by
  unfold OwnV
  rw [List.length_map, ← hn]
  exact h
theorem keys_two {w : World} {b : Nat} {l : List ByteArray} {im : Option Nat} (h : (im = none ∧ l = []) ∨ (im = some b ∧ M.MapAt w b tx txOk (entS l))) (hl : l.length ≤ 8000000000000) (S : World → Prop) (hS : ∀ W, Below w.heap.size w W → S W) :
    Calls Tryz.prog 31 #[.map im] w fun e w1 => ∃ fv, e = .returned fv ∧ S w1 ∧ Calls Tryz.prog 30 #[fv] w1 fun e w' => ∃ u, e = .returned u ∧ S w' ∧ (OwnV w' w.heap.size 9 u ((srtT l).map encStr) ∧ Below w.heap.size w w') := by
  have cK : Calls Tryz.prog 31 #[.map im] w fun e w' => e = .returned (.func (.func 78) #[] #[.pointer (some ⟨w.heap.size, 0, none⟩)]) ∧ w' = w.alloc (.cells #[.map im] 106) := callsIn_wide.1 (AnyZ.keys_in keysA Fence.wide 5 trivial rfl im w)
  refine cK.mono ?_
  rintro e w1 ⟨rfl, rfl⟩
  have b1 : Below w.heap.size w (w.alloc (.cells #[.map im] 106)) := (Below.refl _ _).alloc (Nat.le_refl _) _
  refine ⟨_, rfl, hS _ b1, ?_⟩
  rcases h with ⟨rfl, rfl⟩ | ⟨rfl, hm⟩
  · have hseq : SeqGives Fence.wide 2 Tryz.prog 78 #[.pointer (some ⟨w.heap.size, 0, none⟩)] encStr (fun ss : List (List UInt8) => ss = []) 0 (w.alloc (.cells #[.map none] 106)) :=
      AnyZ.keys_gives_nil (ρ := keysA_ren) { keysA with } Fence.wide _ trivial rfl w.heap.size _ (by simp) (by simp)
    have cS := AnyZ.sorted_in sortedA Fence.wide 5 trivial trivial trivial trivial rfl (by omega) (sortsA _) (enters_of Tryz.func77 (by kernel_rfl) rfl) 78 #[.pointer (some ⟨w.heap.size, 0, none⟩)] trivial (enters_of Tryz.func78 (by kernel_rfl) rfl) _ 0 (Nat.zero_le _) (by omega) _ hseq
    change CallsIn _ _ Tryz.prog 30 _ _ _ at cS
    refine (callsIn_wide.1 cS).mono ?_
    rintro e w' ⟨v, ss, rfl, rfl, hrow, hnil, hb⟩
    have bb := b1.trans (hb.mono b1.size)
    exact ⟨v, rfl, hS _ bb, enc_own (by simp [srtT]) (ownsRow_base_a hrow b1.size), bb⟩
  · obtain ⟨D0, hown, hperm, hsz⟩ := own_keys hm (by unfold maxLen; omega)
    have hbl := hown.lt
    have hseq : SeqGives Fence.wide 2 Tryz.prog 78 #[.pointer (some ⟨w.heap.size, 0, none⟩)] encStr (fun ss => ss.Perm (strKeys D0)) (Maps.size D0) (w.alloc (.cells #[.map (some b)] 106)) :=
      AnyZ.keys_gives (ρ := keysA_ren) { keysA with } Fence.wide _ trivial rfl (by omega) w.heap.size b l.length D0 _ (by simp) (by simp) (by
        obtain ⟨es, clock, hb, Ft, hs, hD⟩ := hown
        exact ⟨es, clock, (Below.heap_alloc _ _ b hbl).trans hb, Ft, hs, hD⟩)
    have cS := AnyZ.sorted_in sortedA Fence.wide 5 trivial trivial trivial trivial rfl (by omega) (sortsA _) (enters_of Tryz.func77 (by kernel_rfl) rfl) 78 #[.pointer (some ⟨w.heap.size, 0, none⟩)] trivial (enters_of Tryz.func78 (by kernel_rfl) rfl) _ _ (by rw [hsz]; unfold maxLen; omega) (by rw [hsz]; omega) _ hseq
    change CallsIn _ _ Tryz.prog 30 _ _ _ at cS
    refine (callsIn_wide.1 cS).mono ?_
    rintro e w' ⟨v, ss, rfl, hp, hrow, hnil, hb⟩
    have bb := b1.trans (hb.mono b1.size)
    have e1 : ss.mergeSort leB = srtT l := mergeSort_of_perm (hp.trans hperm)
    have e2 : ss.length = (srtT l).length := by rw [← e1, List.length_mergeSort]
    have hr := ownsRow_base_a hrow b1.size
    change w'.ownsRow w.heap.size 9 1 v ss.length ((ss.mergeSort leB).map encStr) at hr
    rw [e1] at hr
    exact ⟨v, rfl, hS _ bb, enc_own e2 hr, bb⟩
theorem nodup_len {α : Type} [DecidableEq α] : ∀ {l l' : List α}, l.Nodup → (∀ x ∈ l, x ∈ l') → l.length ≤ l'.length
  | [], l', _, _ => Nat.zero_le _
  | x :: t, l', hn, h => by
    rw [List.nodup_cons] at hn
    have hx := h x (by simp)
    have ih := nodup_len (l := t) (l' := l'.erase x) hn.2 (fun y hy => (List.mem_erase_of_ne (fun e => hn.1 (by rw [← e]; exact hy))).2 (h y (by simp [hy])))
    rw [List.length_erase_of_mem hx] at ih
    have := List.length_pos_of_mem hx
    simp only [List.length_cons]
    omega
theorem key_case {w : World} {base : Nat} {s : Rs} (m : RgM w base s) (o : IdK) : ∃ b, ((M.look s.K o).map (·.1) = none ∧ keyL s.K o = []) ∨ ((M.look s.K o).map (·.1) = some b ∧ M.MapAt w b tx txOk (entS (keyL s.K o))) := by
  unfold keyL
  cases h : M.look s.K o with
  | none => exact ⟨0, .inl ⟨rfl, rfl⟩⟩
  | some q => exact ⟨q.1, .inr ⟨rfl, m.kr _ (M.look_mem h)⟩⟩
theorem keyL_mem {w : World} {base : Nat} {s : Rs} (m : RgM w base s) (kk : KeysOk s.K s.P) (o : IdK) (k : ByteArray) : k ∈ keyL s.K o ↔ liOf s.P ⟨o, k, zId⟩ ≠ [] := by
  have h1 : k ∈ keyL s.K o ↔ KHas s.K o k := by
    unfold keyL
    cases h : M.look s.K o with
    | none =>
      constructor
      · intro h2; cases h2
      · intro h2; exact absurd h2 (khas_no m.keys h k)
    | some q => exact (khas_of m.keys (M.look_mem h) k).symm
  rw [h1, kk.mem]
  unfold liOf
  cases h : M.look s.P ⟨o, k, zId⟩ with
  | none => simp
  | some q =>
    have := (m.en _ (M.look_mem h)).2.1
    simp only [Option.map_some, Option.getD_some, Option.isSome_some, true_iff]
    exact this
theorem keyL_nodup {w : World} {base : Nat} {s : Rs} (m : RgM w base s) (o : IdK) : (keyL s.K o).Nodup := by
  obtain ⟨b, ⟨_, h⟩ | ⟨_, h⟩⟩ := key_case m o
  · rw [h]; exact List.nodup_nil
  · have := h.2.1
    have e1 : (entS (keyL s.K o)).map (·.1) = keyL s.K o := by simp [entS, M.onV, Function.comp_def]
    rwa [e1] at this
theorem keyL_len {w : World} {base : Nat} {s : Rs} (m : RgM w base s) (kk : KeysOk s.K s.P) (o : IdK) : (keyL s.K o).length ≤ s.P.length := by
  have h1 : ((keyL s.K o).map (fun k => (⟨o, k, zId⟩ : PlK))).Nodup := (keyL_nodup m o).map (f := fun k => (⟨o, k, zId⟩ : PlK)) (fun a b h e => h (by injection e))
  have h2 : ∀ q ∈ (keyL s.K o).map (fun k => (⟨o, k, zId⟩ : PlK)), q ∈ s.P.map (·.1) := fun q hq => by
    obtain ⟨k, hk, rfl⟩ := List.mem_map.1 hq
    have := (keyL_mem m kk o k).1 hk
    unfold liOf at this
    cases h : M.look s.P ⟨o, k, zId⟩ with
    | none => rw [h] at this; exact absurd rfl this
    | some v => exact List.mem_map.2 ⟨_, M.look_mem h, rfl⟩
  have := nodup_len h1 h2
  simpa using this
theorem keys_any {w : World} {base : Nat} {s : Rs} (m : RgM w base s) {o : IdK} (ho : o.ok) (hl : (keyL s.K o).length ≤ 8000000000000) :
    Calls Tryz.prog 12 #[.pointer (some ⟨s.r, 0, none⟩), o.v] w fun e w' => ∃ u, e = .returned u ∧ OwnV w' w.heap.size 9 u ((srtT (keyL s.K o)).map encStr) ∧ Below w.heap.size w w' := by
  obtain ⟨w1, E1, n1, b1⟩ := box_id w o
  have H1 := hidMk E1
  have bd : Below w1.heap.size w1 w1.drew := (Below.refl w1.heap.size w1).drew
  have m1 := m.below b1
  have LD : Hid (∀ W, Below w1.heap.size w1 W → (Instr.loadAt 89 (.pointer (some ⟨s.r, 0 + 1, none⟩))).run Tryz.prog W = .ok (.map (some s.bk)) W ∧ (Instr.loadAt 59 (.pointer (some ⟨w.heap.size, 0, none⟩))).run Tryz.prog W = .ok o.v W ∧ (Instr.lookup 89 (.map (some s.bk)) o.v false).run Tryz.prog W = .ok (.map ((M.look s.K o).map (·.1))) W) := by
    refine fun W b => ⟨?_, load_id ho ((b.block _ (Array.getElem?_eq_some_iff.1 n1).1).trans n1), (m1.below b).lookK o ho⟩
    have := (m1.below b).c1
    go_simp
  obtain ⟨b, hc⟩ := key_case (m1.below bd) o
  have CK := hidMk (keys_two hc hl (fun W => Below w1.heap.size w1 W) (fun W h => bd.trans h))
  have HB := hidMk b1
  generalize srtT (keyL s.K o) = R at *
  generalize (M.look s.K o).map (·.1) = im at *
  clear m m1 hc E1 n1 b1 hl
  go_enter Tryz.func12, Tryz.ntmps12
  go_upto_region 3 with (first
    | (refine wpList_run rfl (exec_boxE (t := 59) (v := o.v) (u := .pointer (some ⟨w.heap.size, 0, none⟩)) (w2 := w1) rfl rfl H1.out) ?_)
    | fail)
  refine key3 (rb := s.r) (mb := s.bk) (ob := w.heap.size) (y := o) (mv := .map im) (fun W => Below w1.heap.size w1 W) (fun u w' => OwnV w' w1.drew.heap.size 9 u (R.map encStr) ∧ Below w1.drew.heap.size w1.drew w') _ w1 _ rfl rfl rfl bd (fun W h => (LD.out W h).1) (fun W h => (LD.out W h).2.1) (fun W h => (LD.out W h).2.2) CK.out ?_
  intro fv u a' w2 hf ha
  subst ha
  simp only [Act.put, List.setIfInBounds_toArray, List.set_cons_zero, List.set_cons_succ]
  have HF := hidMk hf
  clear hf CK LD H1
  go_wp2
  go_ret
  refine ⟨u, rfl, ?_, HB.out.trans ((bd.trans HF.out.2).mono HB.out.size)⟩
  have := HF.out.1
  exact ownsRow_base_a this HB.out.size
theorem OwnV.texts {w : World} {base : Nat} {u : Value} {R : List (List UInt8)} (h : OwnV w base 9 u (R.map encStr)) : ∃ a c, u = .slice a R.length c ∧ Vals w a (R.map encStr) := by
  obtain ⟨a, c, e, _, hv, _⟩ := h.open
  rw [List.length_map] at e
  exact ⟨a, c, e, hv⟩
theorem same_texts {w : World} {R : List (List UInt8)} (hn : R.length ≤ 9000000000000) {a b : Option Addr} {c d : Nat} (ha : Vals w a (R.map encStr)) (hb : Vals w b (R.map encStr)) :
    Calls Tryz.prog 53 #[.slice a R.length c, .slice b R.length d] w fun e w' => e = .returned (.bool true) ∧ Below w.heap.size w w' := by
  obtain ⟨n, hnn⟩ : ∃ n, R.length = n := ⟨_, rfl⟩
  have hcell : ∀ {p : Option Addr}, Vals w p (R.map encStr) → ∀ i, i < n → ∃ g o, p = some ⟨g, o, none⟩ ∧ ∀ W, Below w.heap.size w W → ∀ t, R[i]? = some t → (Instr.loadAt 9 (.pointer (some ⟨g, o + i, none⟩))).run Tryz.prog W = .ok (.string ⟨t.toArray⟩) W := fun {p} hv i hi => by
    rcases hv with h | ⟨g, o, e, hc⟩
    · have : R = [] := by simpa using h
      rw [this] at hnn
      simp at hnn
      omega
    · refine ⟨g, o, e, fun W bW t ht => ?_⟩
      have h1 := hc i (encStr t) (by rw [List.getElem?_map, ht]; rfl)
      have h2 : W.cell? ⟨g, o + i, none⟩ = some (.string ⟨t.toArray⟩) := (bW.cell (p := ⟨g, o + i, none⟩) (block_lt_of_cell h1)).trans h1
      go_simp
  have HA := hidMk (hcell ha)
  have HB := hidMk (hcell hb)
  have HN := hidMk hnn
  rw [hnn] at hn ⊢
  clear ha hb hcell hnn
  have hne : ((n : Int) != (n : Int)) = false := by simp
  go_enter Tryz.func53, Tryz.ntmps53
  go_wp2
  clear hne
  go_loopw [5] (fun v5 wr => ∃ i : Nat, v5 = .int .i64 (i : Int) ∧ i ≤ n ∧ Hid (Below w.heap.size w wr)) (fun v5 wr => n - (match v5 with | .int _ i => i.toNat | _ => 0))
  case atStart => exact ⟨0, rfl, Nat.zero_le _, Below.refl _ _⟩
  case round =>
    obtain ⟨i, rfl, hin, HI⟩ := hrel
    by_cases hi : i < n
    · obtain ⟨t, ht⟩ : ∃ t, R[i]? = some t := ⟨_, List.getElem?_eq_getElem (by have := HN.out; omega)⟩
      obtain ⟨g, o, rfl, l1⟩ := HA.out i hi
      obtain ⟨g2, o2, rfl, l2⟩ := HB.out i hi
      have bd : Below w.heap.size w wr.drew := HI.out.drew
      have L1 := hidMk (l1 _ bd t ht)
      have L2 := hidMk (l2 _ bd t ht)
      have HD := hidMk bd
      clear l1 l2 ht HI bd
      go_upto_region 6 with fail
      refine smt6 (g := g) (o := o) (n := n) (c := c) (g2 := g2) (o2 := o2) (d := d) (i := i) (s := ⟨t.toArray⟩) _ wr _ rfl rfl rfl rfl hi (by omega) (fun W e => by rw [e]; exact L1.out) (fun W e => by rw [e]; exact L2.out) ?_
      intro a' w2 hf ha
      subst ha
      subst hf
      simp only [Act.put, List.setIfInBounds_toArray, List.set_cons_zero, List.set_cons_succ]
      clear L1 L2
      go_wp2
      rw [show ((i : Int) + 1) = ((i + 1 : Nat) : Int) by omega]
      refine ⟨⟨i + 1, rfl, hi, HD.out⟩, ?_⟩
      show n - ((i + 1 : Nat) : Int).toNat < n - (i : Int).toNat
      omega
    · obtain rfl : i = n := by omega
      go_wp2
      go_ret
      exact ⟨rfl, HI.out⟩
theorem less_lt : ∀ (x y : List UInt8), Op.bytesLess x y = decide (x < y)
  | [], [] => by simp [Op.bytesLess]
  | [], _ :: _ => by simp [Op.bytesLess]
  | _ :: _, [] => by simp [Op.bytesLess]
  | a :: x, b :: y => by
    unfold Op.bytesLess
    rw [less_lt x y, Bool.eq_iff_iff]
    simp [List.cons_lt_cons_iff]
section
def insL (S : List (List UInt8)) (x : List UInt8) (k : Nat) : List (List UInt8) := S.take k ++ x :: S.drop k
variable {S : List (List UInt8)} {x y : List UInt8} {j k : Nat}
theorem insL_len (h : k ≤ S.length) : (insL S x k).length = S.length + 1 := by simp [insL]; omega
theorem insL_get (h : k ≤ S.length) : (insL S x k)[k]? = some x := by
  unfold insL
  rw [List.getElem?_append_right (by simp; omega)]
  simp [Nat.min_eq_left h]
theorem insL_prev (hjk : j + 1 = k) (h : k ≤ S.length) : (insL S x k)[j]? = S[j]? := by
  unfold insL
  rw [List.getElem?_append_left (by simp; omega), List.getElem?_take, if_pos (by omega)]
theorem insL_swap (hjk : j + 1 = k) (hy : S[j]? = some y) : ((insL S x k).set k y).set j x = insL S x j := by
  have hj := (List.getElem?_eq_some_iff.1 hy).1
  have e1 : S.take k = S.take j ++ [y] := by rw [← hjk, List.take_add_one, hy]; rfl
  have e2 : S.drop j = y :: S.drop k := by rw [List.drop_eq_getElem_cons hj, (List.getElem?_eq_some_iff.1 hy).2, hjk]
  have l1 : (S.take j).length = j := by simp; omega
  unfold insL
  rw [e1, e2, List.append_assoc, List.set_append_right _ _ (by omega), l1, show k - j = 1 by omega]
  show (S.take j ++ (y :: y :: S.drop k)).set j x = _
  rw [List.set_append_right _ _ (by omega), l1, Nat.sub_self]
  rfl
theorem insL_sorted (hS : S.Pairwise (fun a b => leB a b = true)) (hk : k ≤ S.length) (hd : ∀ z ∈ S.drop k, leB x z = true) (hp : ∀ j z, j + 1 = k → S[j]? = some z → leB z x = true) : insL S x k = (S ++ [x]).mergeSort leB := by
  have tr : ∀ a b c : List UInt8, leB a b = true → leB b c = true → leB a c = true := fun a b c h1 h2 => by simp only [leB, decide_eq_true_eq] at *; exact List.le_trans h1 h2
  have to : ∀ a b : List UInt8, (leB a b || leB b a) = true := fun a b => by simp only [leB, Bool.or_eq_true, decide_eq_true_eq]; exact List.le_total a b
  have hperm : (insL S x k).Perm (S ++ [x]) := by
    unfold insL
    refine List.perm_middle.trans ?_
    rw [List.take_append_drop]
    exact (List.perm_append_singleton x S).symm
  have hall : ∀ z ∈ S.take k, leB z x = true := by
    intro z hz
    obtain ⟨i, hi⟩ := List.getElem?_of_mem hz
    rw [List.getElem?_take] at hi
    split at hi
    · next hik =>
      obtain ⟨j, hj⟩ : ∃ j, j + 1 = k := ⟨k - 1, by omega⟩
      obtain ⟨u, hu⟩ : ∃ u, S[j]? = some u := ⟨_, List.getElem?_eq_getElem (by omega)⟩
      have h1 := hp j u hj hu
      by_cases e : i = j
      · subst e; rw [hi] at hu; cases hu; exact h1
      · have h2 := List.pairwise_iff_getElem.1 hS i j (List.getElem?_eq_some_iff.1 hi).1 (List.getElem?_eq_some_iff.1 hu).1 (by omega)
        rw [(List.getElem?_eq_some_iff.1 hi).2, (List.getElem?_eq_some_iff.1 hu).2] at h2
        exact tr _ _ _ h2 h1
    · cases hi
  have hsorted : (insL S x k).Pairwise (fun a b => leB a b = true) := by
    unfold insL
    rw [List.pairwise_append, List.pairwise_cons]
    have hS2 := hS
    rw [← List.take_append_drop k S, List.pairwise_append] at hS2
    refine ⟨hS2.1, ⟨hd, hS2.2.1⟩, fun a ha b hb => ?_⟩
    rcases List.mem_cons.1 hb with rfl | hb
    · exact hall a ha
    · exact hS2.2.2 a ha b hb
  refine List.Perm.eq_of_pairwise (le := fun a b => leB a b = true) (fun a b _ _ h1 h2 => ?_) hsorted (List.pairwise_mergeSort tr to _) (hperm.trans (List.mergeSort_perm _ leB).symm)
  simp only [leB, decide_eq_true_eq] at h1 h2
  exact List.le_antisymm h1 h2
end
theorem srtT_sorted (l : List ByteArray) : (srtT l).Pairwise (fun a b => leB a b = true) :=
  List.pairwise_mergeSort (fun a b c h1 h2 => by simp only [leB, decide_eq_true_eq] at *; exact List.le_trans h1 h2) (fun a b => by simp only [leB, Bool.or_eq_true, decide_eq_true_eq]; exact List.le_total a b) _
theorem srtT_snoc (l : List ByteArray) (k : ByteArray) : srtT (l ++ [k]) = (srtT l ++ [k.data.toList]).mergeSort leB := by
  unfold srtT
  rw [List.map_append]
  exact mergeSort_of_perm ((List.mergeSort_perm _ leB).symm.append_right _)
def ksX (X : Sls) (o : IdK) (i : Nat) : List ByteArray := ((X.take i).filter (fun q => decide (q.1.1.o = o ∧ q.1.1.a = zId))).map (·.1.1.k)
theorem ksX_succ {X : Sls} {o : IdK} {i : Nat} {q : (PlK × SlV) × List EnV} (h : X[i]? = some q) : ksX X o (i + 1) = if q.1.1.o = o ∧ q.1.1.a = zId then ksX X o i ++ [q.1.1.k] else ksX X o i := by
  unfold ksX
  rw [List.take_add_one, h]
  by_cases hc : q.1.1.o = o ∧ q.1.1.a = zId
  · rw [if_pos hc]; simp [List.filter_append, hc]
  · rw [if_neg hc]; simp [List.filter_append, hc]
theorem ksX_len (X : Sls) (o : IdK) (i : Nat) : (ksX X o i).length ≤ i := by
  unfold ksX
  rw [List.length_map]
  refine Nat.le_trans (List.length_filter_le _ _) ?_
  rw [List.length_take]
  omega
theorem infoTx : (Tryz.prog.info? 9).map (fun i => (i.zero, i.size, i.bytes)) = some (some (.string ⟨#[]⟩), 1, 16) := by kernel_rfl
theorem run_pushT {w : World} {B : Nat} {v : Value} {L : List Value} (s : ByteArray) (own : OwnV w B 9 v L) (hB : B ≤ w.heap.size) (hn : L.length + 1 ≤ 2000000000000) :
    ∃ bv w1 v2 w2, (Instr.buildSlice 74 1 #[(0, .string s)]).run Tryz.prog w = .ok bv w1 ∧ Below w.heap.size w w1 ∧ (Builtin.append_ #[74, 74] 74 #[v, bv]).run Tryz.prog w1 = .ok v2 w2 ∧ OwnV w2 B 9 v2 (L ++ [.string s]) ∧ Tch (fun j => v.ownBlock = some j) w w2 := by
  have b1 : Below w.heap.size w (w.alloc (.cells #[.string s] 9)) := (Below.refl _ _).alloc (Nat.le_refl _) _
  have v1 : Vals (w.alloc (.cells #[.string s] 9)) (some ⟨w.heap.size, 0, none⟩) [.string s] := .inr ⟨_, _, rfl, fun j x hj => by
    rw [Nat.zero_add, cell_of_row _ _ _ _ _ _ (heap_alloc_new _ _)]
    simpa using hj⟩
  have e1 := run_bs1 74 9 16 _ Tryz.underlying74 infoTx rfl (.string s) rfl w
  have own1 := own.below b1
  have hB1 := Nat.le_trans hB b1.size
  generalize w.alloc (.cells #[.string s] 9) = w1 at *
  obtain ⟨i, hi, hz, hs, hby⟩ := info_parts infoTx
  have hnews : ∀ j u, [Value.string s][j]? = some u → w1.cell? ((⟨w.heap.size, 0, none⟩ : Addr).add j) = some u := fun j u hj => by
    rcases v1 with h | ⟨b, off, e, hc⟩
    · simp at h
    · cases e
      rw [Addr.add_mid]
      exact hc j u hj
  obtain ⟨v', w', hr, h2, h3, h5⟩ := app_at (P := Tryz.prog) w1 B 74 74 9 i _ 1 16 Tryz.underlying74 hi hz hs hby rfl (by decide) v L.length L own1 ⟨w.heap.size, 0, none⟩ 1 1 [.string s] (by simp) hnews (by intro u hu; rw [List.mem_singleton.1 hu]; rfl) (by unfold maxLen; omega) (by omega) hB1
  have t2 : Tch (fun j => v.ownBlock = some j) w1 w' := ⟨h3.os, h3.tape, h3.output, h3.size, fun j hj hn => h3.block j hj (fun e => hn e.symm)⟩
  refine ⟨_, w1, v', w', e1, b1, hr, ?_, (tch_of b1 _).trans' t2 (fun j _ q => q)⟩
  unfold OwnV
  rw [List.length_append]
  exact h2
theorem own_setT {w : World} {B : Nat} {v : Value} {R : List (List UInt8)} (own : OwnV w B 9 v (R.map encStr)) {g n c : Nat} (ev : v = .slice (some ⟨g, 0, none⟩) n c) {i : Nat} (hi : i < R.length) (t : List UInt8) :
    ∃ w', (Instr.storeAt 9 (.pointer (some ⟨g, 0 + i, none⟩)) (.string ⟨t.toArray⟩)).run Tryz.prog w = .ok () w' ∧ OwnV w' B 9 v ((R.set i t).map encStr) ∧ Tch (fun j => j = g) w w' ∧ B ≤ g := by
  rcases own.2 with ⟨e, hz⟩ | ⟨gb, cap, cur, e, hbg, hg, hnc, hcm, hcs, htake⟩
  · rw [List.length_map] at hz; omega
  · rw [ev] at e
    injection e with e1 e2 e3
    injection e1 with e1
    injection e1 with e1
    subst e1
    rw [List.length_map] at e2 hnc
    rw [List.length_map, Nat.mul_one] at htake
    have hl : i < cur.size := by rw [hcs]; omega
    obtain ⟨u, hu⟩ : ∃ u, R[i]? = some u := ⟨_, List.getElem?_eq_getElem hi⟩
    have hcell : w.cell? ⟨g, i, none⟩ = some (.string ⟨u.toArray⟩) := by
      rw [cell_of_row w g i cur 9 (0, 0) hg]
      have h1 : (R.map encStr)[i]? = some (encStr u) := by rw [List.getElem?_map, hu]; rfl
      rw [← htake, List.getElem?_take, if_pos hi] at h1
      simpa using h1
    have hf := frozen_of_row w g i _ _ hg
    have es : (Instr.storeAt 9 (.pointer (some ⟨g, 0 + i, none⟩)) (.string ⟨t.toArray⟩)).run Tryz.prog w = .ok () (w.setCell ⟨g, i, none⟩ (.string ⟨t.toArray⟩)) := by
      rw [Nat.zero_add]
      go_simp
    refine ⟨_, es, ⟨by simp, .inr ⟨g, cap, cur.set! i (.string ⟨t.toArray⟩), by rw [ev, List.length_map, List.length_set, e2, e3], hbg, ?_, by rw [List.length_map, List.length_set]; exact hnc, hcm, by simp [hcs], ?_⟩⟩, ⟨rfl, rfl, rfl, by simp [World.setCell], fun j _ hj => Go.heap_setCell_other _ _ _ _ hj⟩, hbg⟩
    · obtain ⟨hl2, hv⟩ := Array.getElem?_eq_some_iff.1 hg
      simp [World.setCell, hl2, Array.getElem_modify_self, hv]
    · rw [List.length_map, List.length_set, Nat.mul_one, List.map_set, ← htake]
      simp [Array.set!, List.take_set]
theorem OwnV.cellT {w : World} {B : Nat} {v : Value} {R : List (List UInt8)} (own : OwnV w B 9 v (R.map encStr)) {g n c : Nat} (ev : v = .slice (some ⟨g, 0, none⟩) n c) {i : Nat} {t : List UInt8} (hi : R[i]? = some t) : (Instr.loadAt 9 (.pointer (some ⟨g, 0 + i, none⟩))).run Tryz.prog w = .ok (.string ⟨t.toArray⟩) w := by
  obtain ⟨a, cap, e1, _, hv, _⟩ := own.open
  rw [ev] at e1
  injection e1 with e1 _ _
  rcases hv with h | ⟨b, off, e2, hc⟩
  · have : R = [] := by simpa using h
    rw [this] at hi; cases hi
  · rw [e2] at e1
    injection e1 with e1
    injection e1 with e1 e3
    subst e1 e3
    have hcell : w.cell? ⟨g, 0 + i, none⟩ = some (.string ⟨t.toArray⟩) := hc i (encStr t) (by rw [List.getElem?_map, hi]; rfl)
    rw [Nat.zero_add] at hcell ⊢
    go_simp
theorem lss_tx (s t : List UInt8) (W : World) : (binOp .lss 9 (.string ⟨s.toArray⟩) (.string ⟨t.toArray⟩)).run Tryz.prog W = .ok (.bool (decide (s < t))) W := by
  rw [← less_lt]
  have e : ∀ l : List UInt8, (⟨l.toArray⟩ : ByteArray).toList = l := fun l => by rw [ByteArray.toList_eq]
  rw [binOp_string_lss, e, e]
  rfl
structure InS (W1 : World) (lv : Value) (S : List (List UInt8)) (x : List UInt8) (k : Nat) (W : World) : Prop where
  own : OwnV W W1.heap.size 9 lv ((insL S x k).map encStr)
  bel : Below W1.heap.size W1 W
  le : k ≤ S.length
  dr : ∀ z ∈ S.drop k, leB x z = true
theorem rf_keys {B : Nat} {w : World} {d : Nat} {X : Sls} {v : SlV} {pv : Value} {D : List (SlV × Sls)} (h : RfP B w d X v pv D) (hn : X.length ≤ 1100000000000) {o : IdK} (ho : o.ok) :
    Calls Tryz.prog 54 #[.pointer (some ⟨d, 0, none⟩), o.v] w fun e w' => ∃ u, e = .returned u ∧ OwnV w' w.heap.size 9 u ((srtT (ksX X o X.length)).map encStr) ∧ Below w.heap.size w w' := by
  obtain ⟨w1, E1, n1, b1⟩ := box_id w o
  have h1 := h.below b1
  obtain ⟨a, c, ev, hat⟩ := h1.rfS
  obtain ⟨n, hnn⟩ : ∃ n, X.length = n := ⟨_, rfl⟩
  rw [hnn] at ev hn ⊢
  have HC : Hid (∀ W, Below w1.heap.size w1 W → W.cell? ⟨d, 0, none⟩ = some (.slice a n c) ∧ W.heap[w.heap.size]? = some (.cells o.c.toArray 59 (0, 0))) := fun W b => ⟨by rw [← ev]; exact (cell_of_row W d 0 _ _ _ (h1.below b).cell).trans rfl, (b.block _ (Array.getElem?_eq_some_iff.1 n1).1).trans n1⟩
  have HX : Hid (∀ i, i < n → ∃ q, X[i]? = some q ∧ q.1.1.ok ∧ ∃ g o, a = some ⟨g, o, none⟩ ∧ ∀ W, Below w1.heap.size w1 W → (Instr.loadAt 68 (.pointer (some ⟨g, o + 68 * i + 0, none⟩))).run Tryz.prog W = .ok q.1.1.v W) := by
    intro i hi
    obtain ⟨q, hq⟩ : ∃ q, X[i]? = some q := ⟨_, List.getElem?_eq_getElem (by omega)⟩
    have hqo := (h1.en q (List.mem_of_getElem? hq)).2.1
    refine ⟨q, hq, hqo, ?_⟩
    rcases hat with h | ⟨g, o, e, hl, h2⟩
    · have : X = [] := by simpa [Sls.row] using h
      rw [this] at hq; cases hq
    · exact ⟨g, o, e, fun W b => rt_pl hqo (rangeAt_keep (h2 i q.1 (by rw [Sls.row, List.getElem?_map, hq]; rfl)) (b.block _ hl))⟩
  have H1 := hidMk E1
  have HB := hidMk b1
  obtain ⟨ob, hob⟩ : ∃ b, w.heap.size = b := ⟨_, rfl⟩
  have HOB := hidMk hob
  rw [hob] at H1 HC
  clear h h1 E1 n1 b1 ev hat hnn hob
  go_enter Tryz.func54, Tryz.ntmps54
  go_wp2_with (first
    | (refine wpList_run rfl (exec_boxE (t := 59) (v := o.v) (u := .pointer (some ⟨ob, 0, none⟩)) (w2 := w1) rfl rfl H1.out) ?_)
    | fail)
  clear H1
  go_loopw [5, 6] (fun v5 v6 wx => ∃ i : Nat, v6 = .int .i64 (i : Int) ∧ i ≤ n ∧ Hid (∃ sv : SlV, v5 = sv.v ∧ OwnV wx w1.heap.size 9 sv.v ((srtT (ksX X o i)).map encStr) ∧ Below w1.heap.size w1 wx)) (fun _ v6 wx => n - (match v6 with | .int _ i => i.toNat | _ => 0))
  case atStart => exact ⟨0, rfl, Nat.zero_le _, ⟨none, 0, 0⟩, rfl, by rw [show srtT (ksX X o 0) = [] by simp [ksX, srtT]]; exact ⟨rfl, .inl ⟨rfl, rfl⟩⟩, Below.refl _ _⟩
  case round =>
    obtain ⟨i, rfl, hin, HI⟩ := hrel
    obtain ⟨sv, rfl, hown, hbel⟩ := HI.out
    have HO := hidMk hown
    have HBE := hidMk hbel
    clear HI hown hbel
    have c0 := (HC.out wr HBE.out).1
    by_cases hi : i < n
    · obtain ⟨q, hq, hqo, g, go, ea, hlq⟩ := HX.out i hi
      subst ea
      obtain ⟨p, hp⟩ : ∃ p, q.1.1 = p := ⟨_, rfl⟩
      rw [hp] at hqo hlq
      have HQ := hidMk (And.intro hq hp)
      obtain ⟨wa, wb, EA, EB, nb, bb⟩ := pl_new wr hqo
      have h63 : n ≤ 9223372036854775807 := by omega
      have L1 : Hid ((Instr.loadAt 92 (.pointer (some ⟨d, 0 + 0, none⟩))).run Tryz.prog wr = .ok (.slice (some ⟨g, go, none⟩) n c) wr) := by
        have : (Instr.loadAt 92 (.pointer (some ⟨d, 0 + 0, none⟩))).run Tryz.prog wr = .ok (.slice (some ⟨g, go, none⟩) n c) wr := by go_simp
        exact this
      have L2 := hidMk (hlq wr HBE.out)
      have HAB := hidMk (And.intro EA EB)
      have HNB := hidMk (And.intro nb (And.intro bb (HBE.out.trans (bb.mono HBE.out.size))))
      clear hq hp hlq EA EB nb bb
      go_upto_region 5 with fail
      clear c0
      refine rke5 (d := d) (g := g) (o := go) (n := n) (c := c) (i := i) (pb := wr.heap.size) (p := p) (w1 := wa) (w2 := wb) _ wr _ rfl rfl rfl hi h63 (fun W e => by rw [e]; exact L1.out) (fun W e => by rw [e]; exact L2.out) HAB.out.1 HAB.out.2 ?_
      intro a' w3 hf ha
      subst ha
      obtain rfl : wb = w3 := hf.symm
      simp only [Act.put, List.setIfInBounds_toArray, List.set_cons_zero, List.set_cons_succ]
      clear L1 L2 HAB
      have kO : Hid ((Instr.loadAt 59 (.pointer (some ⟨ob, 0, none⟩))).run Tryz.prog wb = .ok o.v wb) := load_id ho (HC.out wb HNB.out.2.2).2
      have kp : Np wr.heap.size p wb := HNB.out.1
      have kPo := hidMk (pl_obj kp hqo)
      have OWB := hidMk (HO.out.below HNB.out.2.1)
      have KS := hidMk (ksX_succ (o := o) HQ.out.1)
      rw [HQ.out.2] at KS
      by_cases h1 : p.o = o
      · have HP1 := hidMk h1
        obtain ⟨r, hr⟩ : ∃ r, decide (p.a ≠ zId) = r := ⟨_, rfl⟩
        have HR := hidMk hr
        have kPa : Hid ((Instr.loadAt 59 (.pointer (some ⟨wr.heap.size, 0 + 34, none⟩))).run Tryz.prog wb = .ok p.a.v wb) := run_loadAt_mid (P := Tryz.prog) wb wr.heap.size 34 59 p.a.c _ (fun j v hv => by
          have := rng_cells kp (34 + j) v (by
            rw [PlK.c, List.getElem?_append_right (by rw [IdK.len hqo.o]; omega), IdK.len hqo.o, show 34 + j - 33 = j + 1 by omega, List.getElem?_cons_succ]
            exact hv)
          rwa [Nat.zero_add] at this) Tryz.underlying59 rfl (by rw [IdK.len hqo.a]; exact szId)
        go_upto_region 6 with fail
        refine rke6y (ob := ob) (pb := wr.heap.size) (p := p) (y := o) (r := r) _ wb _ rfl rfl rfl hqo ho (fun W e => by rw [e]; exact kPo.out) (fun W e => by rw [e]; exact kO.out) h1 hr (fun W e => by rw [e]; exact kPa.out) ?_
        intro a' w4 hf ha
        subst ha
        obtain rfl : wb = w4 := hf.symm
        simp only [Act.put, List.setIfInBounds_toArray, List.set_cons_zero, List.set_cons_succ]
        clear h1 hr kPa kPo kO
        cases r
        · have hz : Hid (p.a = zId) := hidMk (by have := HR.out; simpa using this)
          have e := KS.out
          rw [if_pos ⟨HP1.out, hz.out⟩] at e
          have HE := hidMk e
          have hkl : (ksX X o i).length ≤ i := ksX_len _ _ _
          obtain ⟨bv, wd, u2, we, E1, bd, E2, o2, t2⟩ := run_pushT p.k OWB.out HNB.out.2.2.size (by rw [List.length_map, srtT_len]; omega)
          obtain ⟨ua, uc, eu, _⟩ := o2.open
          rw [List.length_append, List.length_map, srtT_len] at eu
          obtain ⟨ln, hln⟩ : ∃ l, (ksX X o i).length = l := ⟨_, rfl⟩
          rw [hln] at eu hkl
          obtain ⟨ug, rfl⟩ : ∃ ug, ua = some ⟨ug, 0, none⟩ := by
            rcases o2.2 with ⟨_, hz⟩ | ⟨gb, cap, cur, e, _⟩
            · simp at hz
            · rw [e] at eu; injection eu with e1; exact ⟨gb, e1.symm⟩
          have hle : ln + 1 = (srtT (ksX X o i)).length + 1 := by rw [srtT_len, hln]
          have IS : Hid (InS w1 u2 (srtT (ksX X o i)) p.k.data.toList ln we) := by
            have bel : Below w1.heap.size w1 we := HNB.out.2.2.trans (t2.below HNB.out.2.2.size (fun j e => (OWB.out.ge j e).1))
            refine ⟨?_, bel, by omega, fun z hz => by rw [List.drop_of_length_le (by omega)] at hz; cases hz⟩
            unfold insL
            rw [List.take_of_length_le (by omega), List.drop_of_length_le (by omega), List.map_append]
            exact o2
          have HEE := hidMk (And.intro E1 E2)
          have LK : Hid ((Instr.loadAt 9 (.pointer (some ⟨wr.heap.size, 0 + 33, none⟩))).run Tryz.prog wb = .ok (.string p.k) wb) := by
            have hc : wb.cell? ⟨wr.heap.size, 33, none⟩ = some (.string p.k) := by
              have := rng_cells kp 33 (.string p.k) (by rw [PlK.c, List.getElem?_append_right (by rw [IdK.len hqo.o]; omega), IdK.len hqo.o]; rfl)
              rwa [Nat.zero_add] at this
            have : (Instr.loadAt 9 (.pointer (some ⟨wr.heap.size, 0 + 33, none⟩))).run Tryz.prog wb = .ok (.string p.k) wb := by go_simp
            exact this
          have EU := hidMk eu
          clear E1 E2 bd o2 t2 e kp
          go_upto_region 7 with fail
          refine rke7 (pb := wr.heap.size) (lv := sv.v) (bv := bv) (u := u2) (p := p) (w1 := wd) (w2 := we) _ wb _ rfl rfl rfl (fun W e => by rw [e]; exact LK.out) HEE.out.1 HEE.out.2 ?_
          intro a' w5 hf ha
          subst ha
          obtain rfl : we = w5 := hf.symm
          simp only [Act.put, List.setIfInBounds_toArray, List.set_cons_zero, List.set_cons_succ]
          rw [eu]
          rw [eu] at IS
          obtain ⟨S, hS⟩ : ∃ S, srtT (ksX X o i) = S := ⟨_, rfl⟩
          have HSS := hidMk (And.intro hS (srtT_sorted (ksX X o i)))
          obtain ⟨x, hx⟩ : ∃ x, p.k.data.toList = x := ⟨_, rfl⟩
          have HXX := hidMk hx
          have HLE := hidMk hle
          rw [hS, hx] at IS
          clear HEE LK eu EU hS hx hle OWB hln
          generalize wr = wC at *
          have hsub : ((ln + 1 : Nat) : Int) - 1 = (ln : Int) := by omega
          go_wp2
          go_loopw [8] (fun v8 wx => ∃ k : Nat, v8 = .int .i64 (k : Int) ∧ k ≤ ln ∧ Hid (InS w1 (.slice (some ⟨ug, 0, none⟩) (ln + 1) uc) S x k wx)) (fun v8 wx => (match v8 with | .int _ i => i.toNat | _ => 0))
          case atStart => exact ⟨ln, by first | rfl | (congr 1; omega), Nat.le_refl _, IS⟩
          case round =>
            clear IS hsub
            obtain ⟨k, rfl, hk, HI⟩ := hrel
            have h63l : ln + 1 ≤ 9223372036854775807 := by omega
            have FINI : Hid (∀ k W, InS w1 (.slice (some ⟨ug, 0, none⟩) (ln + 1) uc) S x k W → (∀ j z, j + 1 = k → S[j]? = some z → leB z x = true) → OwnV W w1.heap.size 9 (SlV.v ⟨some ⟨ug, 0, none⟩, ln + 1, uc⟩) ((srtT (ksX X o (i + 1))).map encStr)) := by
              intro k W hs hz
              rw [HE.out, srtT_snoc, HXX.out, HSS.out.1]
              have hsr := HSS.out.2
              rw [HSS.out.1] at hsr
              rw [← insL_sorted hsr hs.le hs.dr hz]
              exact hs.own
            rcases Nat.eq_zero_or_pos k with rfl | hpos
            · go_upto_region 9 with fail
              refine rke9n (g := ug) (o := 0) (n := ln + 1) (c := uc) (k := 0) _ wr _ rfl rfl rfl rfl ?_
              intro a' w6 hf ha
              subst ha
              simp only [Act.put, List.setIfInBounds_toArray, List.set_cons_zero, List.set_cons_succ]
              have bdd : Below wr.heap.size wr w6 := by rw [hf]; exact (Below.refl _ _).drew
              have OK6 := hidMk (And.intro ((FINI.out 0 wr HI.out (fun j z e => by omega)).below bdd) (HI.out.bel.trans (bdd.mono HI.out.bel.size)))
              clear hf bdd HI FINI
              go_wp2
              rw [show ((i : Int) + 1) = ((i + 1 : Nat) : Int) by omega]
              refine ⟨⟨i + 1, rfl, hi, ⟨some ⟨ug, 0, none⟩, ln + 1, uc⟩, rfl, OK6.out.1, OK6.out.2⟩, ?_⟩
              show n - ((i + 1 : Nat) : Int).toNat < n - (i : Int).toNat
              omega
            · obtain ⟨j, hjk⟩ : ∃ j, j + 1 = k := ⟨k - 1, by omega⟩
              have hSl : S.length = ln := by have := HLE.out; rw [HSS.out.1] at this; omega
              obtain ⟨y, hy⟩ : ∃ y, S[j]? = some y := ⟨_, List.getElem?_eq_getElem (by omega)⟩
              have gx := insL_get (x := x) HI.out.le
              have gy := (insL_prev (x := x) hjk HI.out.le).trans hy
              have bd : Below wr.heap.size wr wr.drew := (Below.refl _ _).drew
              have ownd := HI.out.own.below bd
              have L1 := hidMk (ownd.cellT rfl gx)
              have L2 := hidMk (ownd.cellT rfl gy)
              obtain ⟨r, hr⟩ : ∃ r, decide (x < y) = r := ⟨_, rfl⟩
              have HR := hidMk hr
              have HY := hidMk (And.intro hy (And.intro gx (And.intro gy (And.intro ownd hSl))))
              clear hy gx gy ownd hSl
              go_upto_region 9 with fail
              refine rke9y (g := ug) (o := 0) (n := ln + 1) (c := uc) (k := k) (j := j) (s := ⟨x.toArray⟩) (t := ⟨y.toArray⟩) (r := r) _ wr _ rfl rfl rfl hjk (by omega) (by omega) (by omega) h63l (fun W e => by rw [e]; exact L1.out) (fun W e => by rw [e]; exact L2.out) (fun W => by rw [← hr]; exact lss_tx x y W) ?_
              intro a' w6 hf ha
              subst ha
              subst hf
              simp only [Act.put, List.setIfInBounds_toArray, List.set_cons_zero, List.set_cons_succ]
              clear hr
              cases r
              · have hyx : leB y x = true := by
                  have : ¬ x < y := of_decide_eq_false HR.out
                  simp only [leB, decide_eq_true_eq]
                  exact List.not_lt.1 this
                have OK6 := hidMk (And.intro ((FINI.out k wr HI.out (fun j2 z e1 e2 => by
                  have : j2 = j := by omega
                  subst this
                  rw [HY.out.1] at e2
                  cases e2
                  exact hyx)).below bd) (HI.out.bel.trans (bd.mono HI.out.bel.size)))
                clear hyx HI FINI L1 L2 HY HR bd
                go_wp2
                rw [show ((i : Int) + 1) = ((i + 1 : Nat) : Int) by omega]
                refine ⟨⟨i + 1, rfl, hi, ⟨some ⟨ug, 0, none⟩, ln + 1, uc⟩, rfl, OK6.out.1, OK6.out.2⟩, ?_⟩
                show n - ((i + 1 : Nat) : Int).toNat < n - (i : Int).toNat
                omega
              · have hxy : x < y := of_decide_eq_true HR.out
                have hlen := insL_len (x := x) HI.out.le
                obtain ⟨wp, EP, op, tp, hug⟩ := own_setT HY.out.2.2.2.1 rfl (i := k) (by rw [hlen, HY.out.2.2.2.2]; omega) y
                obtain ⟨wq, EQ, oq, tq, _⟩ := own_setT op rfl (i := j) (by rw [List.length_set, hlen, HY.out.2.2.2.2]; omega) x
                rw [insL_swap hjk HY.out.1] at oq
                have beld := HI.out.bel.trans (bd.mono HI.out.bel.size)
                have belq : Below w1.heap.size w1 wq := (beld.trans (tp.below beld.size (fun j e => by rw [e]; exact hug))).trans (tq.below (Nat.le_trans beld.size tp.size) (fun j e => by rw [e]; exact hug))
                have NS : Hid (InS w1 (.slice (some ⟨ug, 0, none⟩) (ln + 1) uc) S x j wq) := ⟨oq, belq, by have := HI.out.le; omega, fun z hz => by
                  rw [List.drop_eq_getElem_cons (List.getElem?_eq_some_iff.1 HY.out.1).1, (List.getElem?_eq_some_iff.1 HY.out.1).2, hjk] at hz
                  rcases List.mem_cons.1 hz with rfl | hz
                  · simp only [leB, decide_eq_true_eq]; exact List.le_of_lt hxy
                  · exact HI.out.dr z hz⟩
                have HEP := hidMk (And.intro EP EQ)
                clear EP EQ op oq tp tq belq beld hug hlen hxy HI FINI HR bd
                go_upto_region 11 with fail
                refine rke11 (g := ug) (o := 0) (n := ln + 1) (c := uc) (k := k) (s := ⟨x.toArray⟩) _ wr.drew _ rfl rfl rfl (by omega) h63l (fun W e => by rw [e]; exact L1.out) ?_
                intro a' w6 hf ha
                subst ha
                subst hf
                simp only [Act.put, List.setIfInBounds_toArray, List.set_cons_zero, List.set_cons_succ]
                go_upto_region 12 with fail
                refine rke12 (g := ug) (o := 0) (n := ln + 1) (c := uc) (k := k) (j := j) (t := ⟨y.toArray⟩) (w1 := wp) _ wr.drew _ rfl rfl rfl hjk (by omega) (by omega) (by omega) h63l (fun W e => by rw [e]; exact L2.out) HEP.out.1 ?_
                intro a' w6 hf ha
                subst ha
                obtain rfl : wp = w6 := hf.symm
                simp only [Act.put, List.setIfInBounds_toArray, List.set_cons_zero, List.set_cons_succ]
                go_upto_region 13 with fail
                refine rke13 (g := ug) (o := 0) (n := ln + 1) (c := uc) (k := k) (j := j) (s := ⟨x.toArray⟩) (w1 := wq) _ wp _ rfl rfl rfl rfl hjk (by omega) (by omega) h63l HEP.out.2 ?_
                intro a' w6 hf ha
                subst ha
                obtain rfl : wq = w6 := hf.symm
                simp only [Act.put, List.setIfInBounds_toArray, List.set_cons_zero, List.set_cons_succ]
                clear HEP L1 L2 HY
                go_wp2
                refine ⟨⟨j, by congr 1; omega, by omega, NS.out⟩, ?_⟩
                show Int.toNat _ < Int.toNat _
                omega
        · have hz : Hid (¬ (p.o = o ∧ p.a = zId)) := hidMk (by have := HR.out; simp at this; exact fun h => this h.2)
          have e := KS.out
          rw [if_neg hz.out] at e
          have HE := hidMk e
          clear e kp
          go_wp2
          rw [show ((i : Int) + 1) = ((i + 1 : Nat) : Int) by omega]
          refine ⟨⟨i + 1, rfl, hi, sv, rfl, by rw [HE.out]; exact OWB.out, HNB.out.2.2⟩, ?_⟩
          show n - ((i + 1 : Nat) : Int).toNat < n - (i : Int).toNat
          omega
      · have HP1 := hidMk h1
        go_upto_region 6 with fail
        refine rke6n (ob := ob) (pb := wr.heap.size) (p := p) (y := o) _ wb _ rfl rfl rfl hqo ho (fun W e => by rw [e]; exact kPo.out) (fun W e => by rw [e]; exact kO.out) h1 ?_
        intro a' w4 hf ha
        subst ha
        obtain rfl : wb = w4 := hf.symm
        simp only [Act.put, List.setIfInBounds_toArray, List.set_cons_zero, List.set_cons_succ]
        have e := KS.out
        rw [if_neg (fun h => HP1.out h.1)] at e
        have HE := hidMk e
        clear e h1 kp kPo kO
        go_wp2
        rw [show ((i : Int) + 1) = ((i + 1 : Nat) : Int) by omega]
        refine ⟨⟨i + 1, rfl, hi, sv, rfl, by rw [HE.out]; exact OWB.out, HNB.out.2.2⟩, ?_⟩
        show n - ((i + 1 : Nat) : Int).toNat < n - (i : Int).toNat
        omega
    · obtain rfl : i = n := by omega
      go_wp2
      go_ret
      exact ⟨sv.v, rfl, ownsRow_base_a HO.out (by have := HB.out.size; exact this), HB.out.trans (HBE.out.mono HB.out.size)⟩
end Go.Proofs.YtldlljobofnmmaaGreatDoor
namespace Go.Proofs.YtldlljobofnmmaaGreatDoor
open Go.RowKit
set_option linter.unusedVariables false
set_option linter.unusedSimpArgs false
section
open Ieee
theorem signed_zero {s : Bool} {m k : Nat} (h : signed s m k = 0) : m = 0 := by
  unfold signed at h
  rw [Nat.shiftLeft_eq] at h
  generalize hz : m * 2 ^ k = z at h
  have : m * 2 ^ k = 0 := by
    cases s
    · simp at h; omega
    · simp at h; omega
  rcases Nat.mul_eq_zero.1 this with h | h
  · exact h
  · exact absurd h (by have := Nat.two_pow_pos k; omega)
theorem ord_zero {f : Nat} (h : (Ieee.double.order f 0 == some .eq) = true) : f % 2 ^ 63 = 0 := by
  have e1 : Ieee.double.signWeight = 2 ^ 63 := rfl
  have e2 : Ieee.double.binade = 2 ^ 52 := rfl
  have e3 : Ieee.double.infRung = 2047 * 2 ^ 52 := rfl
  have h' : Ieee.double.order f 0 = some .eq := by simpa using h
  have z : Ieee.double.read 0 = .number false 0 Ieee.double.leastPlace := by decide +kernel
  have key : ∀ s m i, Datum.order (.number s m i) (.number false 0 Ieee.double.leastPlace) = some .eq → m = 0 := fun s m i q => by
    simp only [Datum.order, Option.some.injEq] at q
    have q2 := Std.LawfulEqCmp.eq_of_compare q
    have : signed false 0 (Ieee.double.leastPlace - min i Ieee.double.leastPlace).toNat = 0 := by simp [signed]
    rw [this] at q2
    exact signed_zero q2
  unfold Ieee.Format.order at h'
  rw [z] at h'
  unfold Ieee.Format.read at h'
  rw [e1, e2, e3] at h'
  simp only at h'
  split at h'
  · exact key _ _ _ h'
  · split at h'
    · have := key _ _ _ h'
      omega
    · split at h'
      · simp only [Datum.order, Option.some.injEq] at h'
        split at h' <;> cases h'
      · cases h'
end
theorem f_zero {f : Nat} (hf : f < 18446744073709551616) (h : (FloatKind.f64.format.order f 0 == some .eq) = true) : f = 0 ∨ f = 9223372036854775808 := by
  have := ord_zero h
  omega
theorem same_self {x : VaV} (hx : x.ok) (w : World) : Calls Tryz.prog 57 #[x.v, x.v] w fun e w' => e = .returned (.bool true) ∧ Below w.heap.size w w' := by
  obtain ⟨k, n, f, t⟩ := x
  have hf := hx.ff
  simp only at hf
  clear hx
  show Calls Tryz.prog 57 #[.agg #[.int .u8 k, .int .i64 n, .float .f64 f, .string t], .agg #[.int .u8 k, .int .i64 n, .float .f64 f, .string t]] w _
  have k1 : (k != k) = false := by simp
  have n1 : (n != n) = false := by simp
  have t1 : (t.toList != t.toList) = false := by simp
  by_cases z1 : (FloatKind.f64.format.order f f == some .eq) = true
  · have z2 : (FloatKind.f64.format.order f f != some .eq) = false := by rw [bne, z1]; rfl
    by_cases z3 : (FloatKind.f64.format.order f 0 == some .eq) = true
    · have z4 : (FloatKind.f64.format.order f 0 != some .eq) = false := by rw [bne, z3]; rfl
      obtain ⟨q, hq, hqq⟩ : ∃ q, (∀ W, (binOp .quo 61 (.float .f64 4607182418800017408) (.float .f64 f)).run Tryz.prog W = .ok (.float .f64 q) W) ∧ (FloatKind.f64.format.order q q == some .eq) = true := by
        rcases f_zero hf z3 with rfl | rfl
        · exact ⟨9218868437227405312, fun W => run_float_arith W .quo 61 .f64 _ _ _ (by decide +kernel), by decide +kernel⟩
        · exact ⟨18442240474082181120, fun W => run_float_arith W .quo 61 .f64 _ _ _ (by decide +kernel), by decide +kernel⟩
      clear hf
      go_enter Tryz.func57, Tryz.ntmps57
      go_wp2
      go_ret
      exact ⟨rfl, belN2 _ _ _⟩
    · replace z3 : (FloatKind.f64.format.order f 0 == some .eq) = false := by simpa using z3
      have z4 : (FloatKind.f64.format.order f 0 != some .eq) = true := by rw [bne, z3]; rfl
      clear hf
      go_enter Tryz.func57, Tryz.ntmps57
      go_wp2
      go_ret
      exact ⟨rfl, belN2 _ _ _⟩
  · replace z1 : (FloatKind.f64.format.order f f == some .eq) = false := by simpa using z1
    have z2 : (FloatKind.f64.format.order f f != some .eq) = true := by rw [bne, z1]; rfl
    clear hf
    go_enter Tryz.func57, Tryz.ntmps57
    go_wp2
    go_ret
    exact ⟨rfl, belN2 _ _ _⟩
def sme6_o0 : Oper := ⟨some 17, .move (.tmp 0), 71, "mem.go:127", #[], none⟩
def sme6_o1 : Oper := ⟨some 18, .move (.tmp 5), 3, "mem.go:127", #[], none⟩
def sme6_o2 : Oper := ⟨some 19, .indexAddr 71 (.tmp 17) (.tmp 18), 0, "mem.go:127", #[⟨0, .data⟩, ⟨1, .data⟩], none⟩
def sme6_o3 : Oper := ⟨some 20, .fieldAddr 85 (.tmp 19) 0, 0, "mem.go:127", #[⟨2, .data⟩], none⟩
def sme6_o4 : Oper := ⟨some 21, .load 59 (.tmp 20), 59, "mem.go:127", #[⟨3, .data⟩], none⟩
def sme6_o5 : Oper := ⟨some 22, .move (.tmp 1), 71, "mem.go:127", #[], none⟩
def sme6_o6 : Oper := ⟨some 23, .move (.tmp 5), 3, "mem.go:127", #[], none⟩
def sme6_o7 : Oper := ⟨some 24, .indexAddr 71 (.tmp 22) (.tmp 23), 0, "mem.go:127", #[⟨5, .data⟩, ⟨6, .data⟩], none⟩
def sme6_o8 : Oper := ⟨some 25, .fieldAddr 85 (.tmp 24) 0, 0, "mem.go:127", #[⟨7, .data⟩], none⟩
def sme6_o9 : Oper := ⟨some 26, .load 59 (.tmp 25), 59, "mem.go:127", #[⟨8, .data⟩], none⟩
def sme6_o10 : Oper := ⟨some 27, .binOp BinOp.neq 59 (.tmp 21) (.tmp 26) 59, 4, "mem.go:127", #[⟨4, .data⟩, ⟨9, .data⟩], none⟩
def sme6_o11 : Oper := ⟨some 28, .move (.tmp 27), 4, "mem.go:127", #[⟨10, .data⟩], none⟩
def sme6_o12 : Oper := ⟨some 29, .move (.tmp 0), 71, "mem.go:127", #[⟨11, .guard⟩], some (11, false)⟩
def sme6_o13 : Oper := ⟨some 30, .move (.tmp 5), 3, "mem.go:127", #[⟨11, .guard⟩], some (11, false)⟩
def sme6_o14 : Oper := ⟨some 31, .indexAddr 71 (.tmp 29) (.tmp 30), 0, "mem.go:127", #[⟨12, .data⟩, ⟨13, .data⟩, ⟨11, .guard⟩], some (11, false)⟩
def sme6_o15 : Oper := ⟨some 32, .fieldAddr 85 (.tmp 31) 1, 0, "mem.go:127", #[⟨14, .data⟩, ⟨11, .guard⟩], some (11, false)⟩
def sme6_o16 : Oper := ⟨some 33, .load 63 (.tmp 32), 63, "mem.go:127", #[⟨15, .data⟩, ⟨11, .guard⟩], some (11, false)⟩
def sme6_o17 : Oper := ⟨some 34, .move (.tmp 1), 71, "mem.go:127", #[⟨11, .guard⟩], some (11, false)⟩
def sme6_o18 : Oper := ⟨some 35, .move (.tmp 5), 3, "mem.go:127", #[⟨11, .guard⟩], some (11, false)⟩
def sme6_o19 : Oper := ⟨some 36, .indexAddr 71 (.tmp 34) (.tmp 35), 0, "mem.go:127", #[⟨17, .data⟩, ⟨18, .data⟩, ⟨11, .guard⟩], some (11, false)⟩
def sme6_o20 : Oper := ⟨some 37, .fieldAddr 85 (.tmp 36) 1, 0, "mem.go:127", #[⟨19, .data⟩, ⟨11, .guard⟩], some (11, false)⟩
def sme6_o21 : Oper := ⟨some 38, .load 63 (.tmp 37), 63, "mem.go:127", #[⟨20, .data⟩, ⟨11, .guard⟩], some (11, false)⟩
def sme6_o22 : Oper := ⟨some 39, .call { callee := Callee.value (Operand.func 57), args := #[.tmp 33, .tmp 38], argTypes := #[63, 63] }, 4, "mem.go:127", #[⟨16, .data⟩, ⟨21, .data⟩, ⟨11, .chain⟩, ⟨11, .guard⟩], some (11, false)⟩
def sme6_o23 : Oper := ⟨some 40, .unOp UnOp.not 4 (.tmp 39), 4, "mem.go:127", #[⟨22, .data⟩, ⟨11, .guard⟩], some (11, false)⟩
def sme6_o24 : Oper := ⟨some 41, .pick (.tmp 28) (Operand.const (Value.bool true)) (.tmp 40), 4, "mem.go:127", #[⟨11, .data⟩, ⟨23, .data⟩], none⟩
def sme6_ops : Array Oper := #[sme6_o0, sme6_o1, sme6_o2, sme6_o3, sme6_o4, sme6_o5, sme6_o6, sme6_o7, sme6_o8, sme6_o9, sme6_o10, sme6_o11, sme6_o12, sme6_o13, sme6_o14, sme6_o15, sme6_o16, sme6_o17, sme6_o18, sme6_o19, sme6_o20, sme6_o21, sme6_o22, sme6_o23, sme6_o24]
theorem sme6 {g o n c k q d i : Nat} {x : EnV} (S : World → Prop) (a : Act) (w : World) (Q : Exit → Act → World → Prop) (zz : a.tmps.size = 42)
    (t0 : a.tmps.getD 0 undef = .slice (some ⟨g, o, none⟩) n c)
    (t1 : a.tmps.getD 1 undef = .slice (some ⟨k, q, none⟩) n d)
    (t5 : a.tmps.getD 5 undef = .int .i64 (i : Int))
    (hx : x.ok) (hi : i < n) (hm : n ≤ 9223372036854775807) (h0 : S w.drew) (L1 : ∀ W, S W → (Instr.loadAt 59 (.pointer (some ⟨g, o + 37 * i + 0, none⟩))).run Tryz.prog W = .ok (x.id.v) W) (L2 : ∀ W, S W → (Instr.loadAt 59 (.pointer (some ⟨k, q + 37 * i + 0, none⟩))).run Tryz.prog W = .ok (x.id.v) W) (L3 : ∀ W, S W → (Instr.loadAt 63 (.pointer (some ⟨g, o + 37 * i + 33, none⟩))).run Tryz.prog W = .ok (x.v.v) W) (L4 : ∀ W, S W → (Instr.loadAt 63 (.pointer (some ⟨k, q + 37 * i + 33, none⟩))).run Tryz.prog W = .ok (x.v.v) W) (CS : Calls Tryz.prog 57 #[x.v.v, x.v.v] w.drew fun e w' => e = .returned (.bool true) ∧ S w')
    (h : ∀ (a' : Act) (w' : World), S w' → a' = (((((((((((((((((((((((((a).put (some 17) (.slice (some ⟨g, o, none⟩) n c)).put (some 18) (.int .i64 (i : Int))).put (some 19) (.pointer (some ⟨g, o + 37 * i, none⟩))).put (some 20) (.pointer (some ⟨g, o + 37 * i + 0, none⟩))).put (some 21) (x.id.v)).put (some 22) (.slice (some ⟨k, q, none⟩) n d)).put (some 23) (.int .i64 (i : Int))).put (some 24) (.pointer (some ⟨k, q + 37 * i, none⟩))).put (some 25) (.pointer (some ⟨k, q + 37 * i + 0, none⟩))).put (some 26) (x.id.v)).put (some 27) (.bool false)).put (some 28) (.bool false)).put (some 29) (.slice (some ⟨g, o, none⟩) n c)).put (some 30) (.int .i64 (i : Int))).put (some 31) (.pointer (some ⟨g, o + 37 * i, none⟩))).put (some 32) (.pointer (some ⟨g, o + 37 * i + 33, none⟩))).put (some 33) (x.v.v)).put (some 34) (.slice (some ⟨k, q, none⟩) n d)).put (some 35) (.int .i64 (i : Int))).put (some 36) (.pointer (some ⟨k, q + 37 * i, none⟩))).put (some 37) (.pointer (some ⟨k, q + 37 * i + 33, none⟩))).put (some 38) (x.v.v)).put (some 39) (.bool true)).put (some 40) (.bool false)).put (some 41) (.bool false) → Q .normal a' w') :
    (Code.region 6 sme6_ops true).wp Tryz.prog Q a w := by
  refine y0 (fun w' => S w') (h0) (fun hHeld => ?_)
  refine yv 0 rfl rfl (fun w1 hw => exec_move rfl (zi t0 rfl)) hHeld ?_
  refine yv 1 rfl rfl (fun w1 hw => exec_move rfl (zi t5 rfl)) hHeld ?_
  refine yv 2 rfl rfl (fun w1 hw => exec_indexAt rfl (zg zz rfl) (zg zz rfl) (ix_en hi hm _)) hHeld ?_
  refine yv 3 rfl rfl (fun w1 hw => exec_fieldAt rfl (zg zz rfl) (fg_85_0 _ _ _)) hHeld ?_
  refine yv 4 rfl rfl (fun w1 hw => exec_load rfl (zg zz rfl) (L1 _ hw)) hHeld ?_
  refine yv 5 rfl rfl (fun w1 hw => exec_move rfl (zi t1 rfl)) hHeld ?_
  refine yv 6 rfl rfl (fun w1 hw => exec_move rfl (zi t5 rfl)) hHeld ?_
  refine yv 7 rfl rfl (fun w1 hw => exec_indexAt rfl (zg zz rfl) (zg zz rfl) (ix_en hi hm _)) hHeld ?_
  refine yv 8 rfl rfl (fun w1 hw => exec_fieldAt rfl (zg zz rfl) (fg_85_0 _ _ _)) hHeld ?_
  refine yv 9 rfl rfl (fun w1 hw => exec_load rfl (zg zz rfl) (L2 _ hw)) hHeld ?_
  refine yv (v := .bool false) 10 rfl rfl (fun w1 hw => ex_neqX hx.i rfl (zg zz rfl) (zg zz rfl)) hHeld ?_
  refine yv 11 rfl rfl (fun w1 hw => exec_move rfl (zg zz rfl)) hHeld ?_
  refine yv 12 rfl (zw zz rfl rfl rfl (zg zz rfl)) (fun w1 hw => exec_move rfl (zi t0 rfl)) hHeld ?_
  refine yv 13 rfl (zw zz rfl rfl rfl (zg zz rfl)) (fun w1 hw => exec_move rfl (zi t5 rfl)) hHeld ?_
  refine yv 14 rfl (zw zz rfl rfl rfl (zg zz rfl)) (fun w1 hw => exec_indexAt rfl (zg zz rfl) (zg zz rfl) (ix_en hi hm _)) hHeld ?_
  refine yv 15 rfl (zw zz rfl rfl rfl (zg zz rfl)) (fun w1 hw => exec_fieldAt rfl (zg zz rfl) (fg_85_1 _ _ _)) hHeld ?_
  refine yv 16 rfl (zw zz rfl rfl rfl (zg zz rfl)) (fun w1 hw => exec_load rfl (zg zz rfl) (L3 _ hw)) hHeld ?_
  refine yv 17 rfl (zw zz rfl rfl rfl (zg zz rfl)) (fun w1 hw => exec_move rfl (zi t1 rfl)) hHeld ?_
  refine yv 18 rfl (zw zz rfl rfl rfl (zg zz rfl)) (fun w1 hw => exec_move rfl (zi t5 rfl)) hHeld ?_
  refine yv 19 rfl (zw zz rfl rfl rfl (zg zz rfl)) (fun w1 hw => exec_indexAt rfl (zg zz rfl) (zg zz rfl) (ix_en hi hm _)) hHeld ?_
  refine yv 20 rfl (zw zz rfl rfl rfl (zg zz rfl)) (fun w1 hw => exec_fieldAt rfl (zg zz rfl) (fg_85_1 _ _ _)) hHeld ?_
  refine yv 21 rfl (zw zz rfl rfl rfl (zg zz rfl)) (fun w1 hw => exec_load rfl (zg zz rfl) (L4 _ hw)) hHeld ?_
  refine yc 22 rfl (zw zz rfl rfl rfl (zg zz rfl)) (exec_c2 rfl (zg zz rfl) (zg zz rfl)) (CS) (fun e x22 hx => ?_)
  obtain ⟨rfl, S1⟩ := hx
  refine ⟨_, rfl, S1, fun hHeld => ?_⟩
  refine yv 23 rfl (zw zz rfl rfl rfl (zg zz rfl)) (fun w1 hw => exec_not rfl (zg zz rfl)) hHeld ?_
  refine yv 24 rfl rfl (fun w1 hw => exec_pickF rfl (zg zz rfl) (zg zz rfl)) hHeld ?_
  exact ye rfl (h _ _ (S1) rfl)
theorem same_entries {w : World} {L : List EnV} (ok : ∀ x ∈ L, x.ok) (hn : L.length ≤ 2500000000000) {a b : Option Addr} {c d : Nat} (ha : RN.At w a L) (hb : RN.At w b L) :
    Calls Tryz.prog 51 #[.slice a L.length c, .slice b L.length d] w fun e w' => e = .returned (.bool true) ∧ Below w.heap.size w w' := by
  obtain ⟨n, hnn⟩ : ∃ n, L.length = n := ⟨_, rfl⟩
  have HL := hidMk (And.intro ha (And.intro hb (And.intro ok hnn)))
  rw [hnn] at hn ⊢
  clear ha hb ok hnn
  have hne : ((n : Int) != (n : Int)) = false := by simp
  go_enter Tryz.func51, Tryz.ntmps51
  go_wp2
  clear hne
  go_loopw [5] (fun v5 wr => ∃ i : Nat, v5 = .int .i64 (i : Int) ∧ i ≤ n ∧ Hid (Below w.heap.size w wr)) (fun v5 wr => n - (match v5 with | .int _ i => i.toNat | _ => 0))
  case atStart => exact ⟨0, rfl, Nat.zero_le _, Below.refl _ _⟩
  case round =>
    obtain ⟨i, rfl, hin, HI⟩ := hrel
    by_cases hi : i < n
    · obtain ⟨ha, hb, ok, hnn⟩ := HL.out
      obtain ⟨x, hxi⟩ : ∃ x, L[i]? = some x := ⟨_, List.getElem?_eq_getElem (by omega)⟩
      have hx : x.ok := ok x (List.mem_of_getElem? hxi)
      obtain ⟨g, o, rfl, lg, hr⟩ : ∃ g o, a = some ⟨g, o, none⟩ ∧ g < w.heap.size ∧ w.rangeAt g (o + 37 * i) x.c := by
        rcases ha with h | ⟨g, o, e, h1, h2⟩
        · rw [h] at hxi; cases hxi
        · exact ⟨g, o, e, h1, h2 i x hxi⟩
      obtain ⟨k, q, rfl, lk, hr2⟩ : ∃ g o, b = some ⟨g, o, none⟩ ∧ g < w.heap.size ∧ w.rangeAt g (o + 37 * i) x.c := by
        rcases hb with h | ⟨g, o, e, h1, h2⟩
        · rw [h] at hxi; cases hxi
        · exact ⟨g, o, e, h1, h2 i x hxi⟩
      have R1 := hidMk (fun (W : World) (hw : Below w.heap.size w W) => rangeAt_keep hr (hw.block _ lg))
      have R2 := hidMk (fun (W : World) (hw : Below w.heap.size w W) => rangeAt_keep hr2 (hw.block _ lk))
      have bd : Below w.heap.size w wr.drew := HI.out.drew
      have CS : Hid (Calls Tryz.prog 57 #[x.v.v, x.v.v] wr.drew fun e w' => e = .returned (.bool true) ∧ Below w.heap.size w w') := (same_self hx.w _).mono fun e w' ⟨h1, h2⟩ => ⟨h1, bd.trans (h2.mono bd.size)⟩
      have h63 : n ≤ 9223372036854775807 := by omega
      clear hxi hr hr2 lg lk ha hb ok hnn HI
      go_upto_region 6 with fail
      refine sme6 (g := g) (o := o) (n := n) (c := c) (k := k) (q := q) (d := d) (i := i) (x := x) (fun W => Below w.heap.size w W) _ wr _ rfl rfl rfl rfl hx hi h63 bd (fun W h => en_id hx (R1.out W h)) (fun W h => en_id hx (R2.out W h)) (fun W h => en_va hx (R1.out W h)) (fun W h => en_va hx (R2.out W h)) CS.out ?_
      intro a' w2 hf ha
      subst ha
      simp only [Act.put, List.setIfInBounds_toArray, List.set_cons_zero, List.set_cons_succ]
      have HF := hidMk hf
      clear hf CS R1 R2 bd
      go_wp2
      rw [show ((i : Int) + 1) = ((i + 1 : Nat) : Int) by omega]
      refine ⟨⟨i + 1, rfl, hi, HF.out⟩, ?_⟩
      show n - ((i + 1 : Nat) : Int).toNat < n - (i : Int).toNat
      omega
    · obtain rfl : i = n := by omega
      go_wp2
      go_ret
      exact ⟨rfl, HI.out⟩
structure Pr (w : World) (base : Nat) (s : Rs) (H : List Rec) (B d : Nat) (X : Sls) (v : SlV) (pv : Value) (D : List (SlV × Sls)) : Prop where
  ra : RgAt w base s H
  rf : RfP B w d X v pv D
  eq : ∀ q, entF X q = liOf s.P q
  xl : X.length ≤ 1100000000000
section
variable {w w' : World} {base : Nat} {s : Rs} {H : List Rec} {B d : Nat} {X : Sls} {v : SlV} {pv : Value} {D : List (SlV × Sls)}
theorem Pr.below (h : Pr w base s H B d X v pv D) (b : Below w.heap.size w w') : Pr w' base s H B d X v pv D := ⟨h.ra.below b, h.rf.below b, h.eq, h.xl⟩
theorem Pr.li (h : Pr w base s H B d X v pv D) (p : PlK) : (∀ x ∈ liOf s.P p, x.ok) ∧ (liOf s.P p).length ≤ 2500000000000 := by rw [← h.eq]; exact ent_facts h.rf.en p
theorem li_mem {w : World} {B : Nat} {s : Rs} (h : RgM w B s) (q : PlK) : q ∈ s.P.map (·.1) ↔ liOf s.P q ≠ [] := by
  rw [look_memI]
  unfold liOf
  cases e : M.look s.P q with
  | none => simp
  | some v =>
    have := (h.en (q, v) (M.look_mem e)).2.1
    simpa using this
theorem ent_mem {X : Sls} (hk : SlOk X) (q : PlK) : q ∈ X.map (·.1.1) ↔ entF X q ≠ [] := by
  constructor
  · intro h
    obtain ⟨z, hz, rfl⟩ := List.mem_map.1 h
    rw [ent_of_mem hk hz]
    exact hk.ne z hz
  · intro h
    rcases fnd_ent X q with ⟨_, e⟩ | ⟨i, z, _, hz, e, _⟩
    · exact absurd e h
    · exact List.mem_map.2 ⟨z, List.mem_of_getElem? hz, e⟩
theorem Pr.len (h : Pr w base s H B d X v pv D) : s.P.length = X.length := by
  have h1 : ∀ q, q ∈ s.P.map (·.1) ↔ q ∈ X.map (·.1.1) := fun q => by rw [li_mem h.ra.mem, ent_mem h.rf.ok, h.eq]
  have a := nodup_len h.ra.mem.places (fun q hq => (h1 q).1 hq)
  have b := nodup_len h.rf.ok.nd (fun q hq => (h1 q).2 hq)
  simp only [List.length_map] at a b
  omega
theorem ksX_mem {X : Sls} (hk : SlOk X) (o : IdK) (k : ByteArray) : k ∈ ksX X o X.length ↔ entF X ⟨o, k, zId⟩ ≠ [] := by
  rw [← ent_mem hk]
  unfold ksX
  rw [List.take_length]
  constructor
  · intro h
    obtain ⟨z, hz, rfl⟩ := List.mem_map.1 h
    obtain ⟨hz, e⟩ := List.mem_filter.1 hz
    have e := of_decide_eq_true e
    refine List.mem_map.2 ⟨z, hz, ?_⟩
    rw [← e.1, ← e.2]
  · intro h
    obtain ⟨z, hz, e⟩ := List.mem_map.1 h
    exact List.mem_map.2 ⟨z, List.mem_filter.2 ⟨hz, by rw [e]; simp⟩, by rw [e]⟩
theorem ksX_nodup {X : Sls} (hk : SlOk X) (o : IdK) : (ksX X o X.length).Nodup := by
  unfold ksX
  rw [List.take_length]
  have h := (List.filter_sublist (p := fun q : (PlK × SlV) × List EnV => decide (q.1.1.o = o ∧ q.1.1.a = zId)) (l := X)).map (·.1.1)
  have h2 := h.nodup hk.nd
  refine nodup_of_keys h2 fun a ha b hb e => ?_
  have ea := of_decide_eq_true (List.mem_filter.1 ha).2
  have eb := of_decide_eq_true (List.mem_filter.1 hb).2
  have : ∀ p q : PlK, p.o = q.o → p.k = q.k → p.a = q.a → p = q := fun p q h1 h2 h3 => by cases p; cases q; simp_all
  exact this _ _ (ea.1.trans eb.1.symm) e (ea.2.trans eb.2.symm)
theorem Pr.keys (h : Pr w base s H B d X v pv D) (o : IdK) : srtT (keyL s.K o) = srtT (ksX X o X.length) := by
  refine srtT_perm ((List.perm_ext_iff_of_nodup (keyL_nodup h.ra.mem o) (ksX_nodup h.rf.ok o)).2 fun k => ?_)
  rw [keyL_mem h.ra.mem h.ra.key, ksX_mem h.rf.ok, h.eq]
end
theorem own_at {w : World} {base : Nat} {u : Value} {L : List EnV} (o : RN.Own w base u L) (ok : ∀ x ∈ L, x.ok) : ∃ a c, u = .slice a L.length c ∧ RN.At w a L := by
  obtain ⟨a, c, e, h, _⟩ := o.lo.open RN_is ok
  exact ⟨a, c, e, h⟩
theorem alike_any {w : World} {base : Nat} {s : Rs} {H : List Rec} {B d : Nat} {X : Sls} {v : SlV} {pv : Value} {D : List (SlV × Sls)} (h : Pr w base s H B d X v pv D) {pa : Option Addr} {pc : Nat} {Ps : List PlK} (hP : RowAt 67 PlK.c w pa Ps) (okP : ∀ x ∈ Ps, x.ok) (hPn : Ps.length ≤ 2000000000000) :
    Calls Tryz.prog 14 #[.pointer (some ⟨s.r, 0, none⟩), .pointer (some ⟨d, 0, none⟩), .slice pa Ps.length pc] w fun e w' => e = .returned (.bool true) ∧ Below w.heap.size w w' := by
  have HH := hidMk h
  obtain ⟨pn, hpn⟩ : ∃ n, Ps.length = n := ⟨_, rfl⟩
  obtain ⟨rb, hrb⟩ : ∃ rb, s.r = rb := ⟨_, rfl⟩
  have HRB := hidMk hrb
  have C1 := hidMk (len_any h.ra.mem)
  have C2 := hidMk (rf_len h.rf)
  obtain ⟨xn, hxn⟩ : ∃ n, X.length = n := ⟨_, rfl⟩
  rw [h.len, hxn, hrb] at C1
  rw [hxn] at C2
  have HAT : Hid (∀ W, Below w.heap.size w W → ∀ m : Int, -9223372036854775808 ≤ m ∧ m ≤ 9223372036854775807 → Calls Tryz.prog 8 #[.slice pa pn pc, .int .i64 m] W fun e w' => e = .returned (atP Ps m).v ∧ Below W.heap.size W w') := by
    intro W b m hm
    rw [← hpn]
    exact at_any (hP.below b) okP hPn hm
  have HOK := hidMk (fun m => atP_ok okP m)
  rw [hpn] at hPn ⊢
  rw [hrb]
  clear hP okP hpn h hrb hxn
  go_enter Tryz.func14, Tryz.ntmps14
  go_wp2_with (first
    | (go_at_call 17; refine C1.out.mono ?_; rintro e wL ⟨rfl, hw⟩; obtain rfl : w = wL := hw.symm; clear C1)
    | (go_at_call 50; refine C2.out.mono ?_; rintro e wL ⟨rfl, hw⟩; obtain rfl : w = wL := hw.symm; clear C2)
    | fail)
  go_loopw [7] (fun v7 wx => ∃ m : Nat, v7 = .int .i64 (m : Int) ∧ m ≤ pn + 1 ∧ Hid (Below w.heap.size w wx)) (fun v7 wx => pn + 1 - (match v7 with | .int _ i => i.toNat | _ => 0))
  case atStart => exact ⟨0, rfl, Nat.zero_le _, Below.refl _ _⟩
  case round =>
    obtain ⟨m, rfl, hm, HB⟩ := hrel
    by_cases hm2 : m ≤ pn
    · obtain ⟨p, hp0⟩ : ∃ p, atP Ps (m : Int) = p := ⟨_, rfl⟩
      have hp : p.ok := by rw [← hp0]; exact HOK.out _
      have CA : Hid (Calls Tryz.prog 8 #[.slice pa pn pc, .int .i64 (m : Int)] wr fun e w' => e = .returned p.v ∧ ∃ pb w1 w2, (Instr.alloc 68 true (.tuple #[])).run Tryz.prog w' = .ok (.pointer (some ⟨pb, 0, none⟩)) w1 ∧ (Instr.storeAt 68 (.pointer (some ⟨pb, 0, none⟩)) p.v).run Tryz.prog w1 = .ok () w2 ∧ (Below w.heap.size w w2 ∧ Np pb p w2)) := by
        refine (HAT.out wr HB.out m (by omega)).mono ?_
        rintro e w' ⟨rfl, b⟩
        rw [hp0]
        obtain ⟨w1, w2, e1, e2, n2, b2⟩ := pl_new w' hp
        have b12 := b.trans (b2.mono b.size)
        exact ⟨rfl, w'.heap.size, w1, w2, e1, e2, HB.out.trans (b12.mono HB.out.size), n2⟩
      clear hp0 HB
      go_upto_region 6 with fail
      refine alk6 (m := m) (pn := pn) (pc := pc) (pa := pa) (p := p) (fun pb w' => Below w.heap.size w w' ∧ Np pb p w') _ wr _ rfl rfl rfl CA.out ?_
      intro pb a' w1 hf ha
      subst ha
      simp only [Act.put, List.setIfInBounds_toArray, List.set_cons_zero, List.set_cons_succ]
      have H1 := hidMk hf
      have P1 := hidMk (HH.out.below hf.1)
      clear hf CA
      have KN : Hid (∀ W, Below w1.heap.size w1 W → Np pb p W) := fun W b => H1.out.2.below b
      have bd : Below w1.heap.size w1 w1.drew := (Below.refl _ _).drew
      obtain ⟨lok, lln⟩ := HH.out.li p
      have C7 : Hid (Calls Tryz.prog 10 #[.pointer (some ⟨rb, 0, none⟩), p.v] w1.drew fun e x1 => ∃ u1, e = .returned u1 ∧ Below w1.heap.size w1 x1 ∧ Calls Tryz.prog 52 #[.pointer (some ⟨d, 0, none⟩), p.v] x1 fun e x2 => ∃ u2, e = .returned u2 ∧ Below w1.heap.size w1 x2 ∧ Calls Tryz.prog 51 #[u1, u2] x2 fun e x3 => e = .returned (.bool true) ∧ Below w1.heap.size w1 x3 ∧ Calls Tryz.prog 12 #[.pointer (some ⟨rb, 0, none⟩), p.o.v] x3 fun e x4 => ∃ u4, e = .returned u4 ∧ Below w1.heap.size w1 x4 ∧ Calls Tryz.prog 54 #[.pointer (some ⟨d, 0, none⟩), p.o.v] x4 fun e x5 => ∃ u5, e = .returned u5 ∧ Below w1.heap.size w1 x5 ∧ Calls Tryz.prog 53 #[u4, u5] x5 fun e x6 => e = .returned (.bool true) ∧ Below w1.heap.size w1 x6) := by
        have q0 := P1.out.below bd
        have c := entries_any q0.ra.mem hp lln
        rw [HRB.out] at c
        refine c.mono ?_
        rintro e x1 ⟨u1, rfl, o1, b1⟩
        have B1 := bd.trans (b1.mono bd.size)
        have q1 := P1.out.below B1
        refine ⟨u1, rfl, B1, ?_⟩
        refine (rf_entries q1.rf q1.xl hp).mono ?_
        rintro e x2 ⟨u2, rfl, o2, b2⟩
        have B2 := B1.trans (b2.mono B1.size)
        refine ⟨u2, rfl, B2, ?_⟩
        rw [HH.out.eq] at o2
        obtain ⟨a1, c1, rfl, at1⟩ := own_at o1 lok
        obtain ⟨a2, c2, rfl, at2⟩ := own_at o2 lok
        refine (same_entries lok lln (at1.below b2) at2).mono ?_
        rintro e x3 ⟨rfl, b3⟩
        have B3 := B2.trans (b3.mono B2.size)
        refine ⟨rfl, B3, ?_⟩
        have q3 := P1.out.below B3
        have hkl : (keyL s.K p.o).length ≤ 1100000000000 := by
          have := keyL_len q3.ra.mem q3.ra.key p.o
          have e1 := q3.len
          have := q3.xl
          omega
        have c := keys_any q3.ra.mem hp.o (by omega)
        rw [HRB.out] at c
        refine c.mono ?_
        rintro e x4 ⟨u4, rfl, o4, b4⟩
        have B4 := B3.trans (b4.mono B3.size)
        refine ⟨u4, rfl, B4, ?_⟩
        have q4 := P1.out.below B4
        refine (rf_keys q4.rf q4.xl hp.o).mono ?_
        rintro e x5 ⟨u5, rfl, o5, b5⟩
        have B5 := B4.trans (b5.mono B4.size)
        refine ⟨u5, rfl, B5, ?_⟩
        rw [← q4.keys] at o5
        obtain ⟨a4, c4, rfl, at4⟩ := (o4.below b5).texts
        obtain ⟨a5, c5, rfl, at5⟩ := o5.texts
        refine (same_texts (by rw [srtT_len]; omega) at4 at5).mono ?_
        rintro e x6 ⟨rfl, b6⟩
        exact ⟨rfl, B5.trans (b6.mono B5.size)⟩
      go_upto_region 7 with fail
      refine alk7 (rb := rb) (d := d) (pb := pb) (p := p) (fun W => Below w1.heap.size w1 W) _ w1 _ rfl rfl rfl rfl bd (fun W b => ld_pl hp (rng_cells (KN.out W b))) (fun W b => pl_obj (KN.out W b) hp) C7.out ?_
      intro u1 u2 u4 u5 a' w2 hf ha
      subst ha
      simp only [Act.put, List.setIfInBounds_toArray, List.set_cons_zero, List.set_cons_succ]
      have B2 := hidMk hf
      clear hf C7 bd
      obtain ⟨tp, htp⟩ : ∃ tp, (liOf s.P p).getLast?.getD zEn = tp := ⟨_, rfl⟩
      have htok : Hid tp.ok := by
        rw [← htp]
        cases hl : (liOf s.P p).getLast? with
        | none => exact zEn_ok
        | some z => exact lok z (List.mem_of_getLast? hl)
      obtain ⟨r, hr⟩ : ∃ r, (!(liOf s.P p).isEmpty) = r := ⟨_, rfl⟩
      have NEWE : Hid (∀ w', ∃ eb w1 w2, (Instr.alloc 85 true (.tuple #[])).run Tryz.prog w' = .ok (.pointer (some ⟨eb, 0, none⟩)) w1 ∧ (Instr.storeAt 85 (.pointer (some ⟨eb, 0, none⟩)) tp.a).run Tryz.prog w1 = .ok () w2 ∧ Below w'.heap.size w' w2 ∧ RN.Bx w2 eb tp) := by
        intro w'
        obtain ⟨w1, e1, n1, b1⟩ := en_box w'
        obtain ⟨w2, e2, n2, t2⟩ := en_put zEn_ok htok.out n1
        exact ⟨w'.heap.size, w1, w2, e1, e2, b1.trans (t2.below b1.size (fun j e => by rw [e]; exact Nat.le_refl _)), n2⟩
      have CT : Hid (Calls Tryz.prog 55 #[.pointer (some ⟨rb, 0, none⟩), p.v] w2 fun e w' => e = .returned (.tuple #[tp.a, .bool r]) ∧ ∃ eb x1 x2, (Instr.alloc 85 true (.tuple #[])).run Tryz.prog w' = .ok (.pointer (some ⟨eb, 0, none⟩)) x1 ∧ (Instr.storeAt 85 (.pointer (some ⟨eb, 0, none⟩)) tp.a).run Tryz.prog x1 = .ok () x2 ∧ (Below w1.heap.size w1 x2 ∧ RN.Bx x2 eb tp)) := by
        have cc := top_any (P1.out.below B2.out).ra.mem hp lln
        rw [HRB.out] at cc
        refine cc.mono ?_
        rintro e w' ⟨rfl, b⟩
        obtain ⟨eb, x1, x2, e1, e2, b2, n2⟩ := NEWE.out w'
        have b3 := b.trans (b2.mono b.size)
        exact ⟨by rw [htp, hr], eb, x1, x2, e1, e2, B2.out.trans (b3.mono B2.out.size), n2⟩
      have LP := hidMk (ld_pl hp (rng_cells (KN.out _ B2.out)))
      go_upto_region 9 with fail
      refine alk9 (rb := rb) (pb := pb) (p := p) (x := tp) (r := r) (fun eb W => Below w1.heap.size w1 W ∧ RN.Bx W eb tp) _ w2 _ rfl rfl rfl (fun W e => by rw [e]; exact LP.out) CT.out ?_
      intro eb a' w3 hf ha
      subst ha
      simp only [Act.put, List.setIfInBounds_toArray, List.set_cons_zero, List.set_cons_succ]
      have B3 := hidMk hf
      clear hf CT LP
      have CT : Hid (Calls Tryz.prog 56 #[.pointer (some ⟨d, 0, none⟩), p.v] w3 fun e w' => e = .returned (.tuple #[tp.a, .bool r]) ∧ ∃ fb x1 x2, (Instr.alloc 85 true (.tuple #[])).run Tryz.prog w' = .ok (.pointer (some ⟨fb, 0, none⟩)) x1 ∧ (Instr.storeAt 85 (.pointer (some ⟨fb, 0, none⟩)) tp.a).run Tryz.prog x1 = .ok () x2 ∧ (Below w1.heap.size w1 x2 ∧ RN.Bx x2 fb tp ∧ RN.Bx x2 eb tp)) := by
        have q3 := P1.out.below B3.out.1
        have cc := rf_top q3.rf q3.xl hp
        rw [HH.out.eq] at cc
        refine cc.mono ?_
        rintro e w' ⟨rfl, b⟩
        obtain ⟨fb, x1, x2, e1, e2, b2, n2⟩ := NEWE.out w'
        have b3 := b.trans (b2.mono b.size)
        exact ⟨by rw [htp, hr], fb, x1, x2, e1, e2, B3.out.1.trans (b3.mono B3.out.1.size), n2, B3.out.2.below b3⟩
      have LP := hidMk (ld_pl hp (rng_cells (KN.out _ B3.out.1)))
      clear htp hr lok lln
      go_upto_region 10 with fail
      refine alk10 (rb := d) (pb := pb) (p := p) (x := tp) (r := r) (fun fb W => Below w1.heap.size w1 W ∧ RN.Bx W fb tp ∧ RN.Bx W eb tp) _ w3 _ rfl rfl rfl (fun W e => by rw [e]; exact LP.out) CT.out ?_
      intro fb a' w4 hf ha
      subst ha
      simp only [Act.put, List.setIfInBounds_toArray, List.set_cons_zero, List.set_cons_succ]
      have B4 := hidMk hf
      clear hf CT LP NEWE
      have CS : Hid (Calls Tryz.prog 57 #[tp.v.v, tp.v.v] w4 fun e w' => e = .returned (.bool true) ∧ Below w1.heap.size w1 w') := by
        refine (same_self htok.out.w w4).mono ?_
        rintro e w' ⟨rfl, b⟩
        exact ⟨rfl, B4.out.1.trans (b.mono B4.out.1.size)⟩
      go_upto_region 11 with fail
      refine alk11 (eb := eb) (fb := fb) (r := r) (x := tp) (fun W => Below w1.heap.size w1 W) _ w4 _ rfl rfl rfl rfl rfl htok.out.i (fun W e => by rw [e]; exact en_id htok.out B4.out.2.2.rng) (fun W e => by rw [e]; exact en_id htok.out B4.out.2.1.rng) (fun W e => by rw [e]; exact en_va htok.out B4.out.2.2.rng) (fun W e => by rw [e]; exact en_va htok.out B4.out.2.1.rng) CS.out ?_
      intro a' w5 hf ha
      subst ha
      simp only [Act.put, List.setIfInBounds_toArray, List.set_cons_zero, List.set_cons_succ]
      have B5 : Hid (Below w.heap.size w w5) := H1.out.1.trans (hf.mono H1.out.1.size)
      clear hf CS B4 B3 B2 htok KN P1 H1
      go_wp2
      rw [show ((m : Int) + 1) = ((m + 1 : Nat) : Int) by omega]
      refine ⟨⟨m + 1, rfl, by omega, B5.out⟩, ?_⟩
      show pn + 1 - ((m + 1 : Nat) : Int).toNat < pn + 1 - (m : Int).toNat
      omega
    · obtain rfl : m = pn + 1 := by omega
      go_wp2
      go_ret
      exact ⟨rfl, HB.out⟩
variable {K : Nat → Option Obj}
structure Pz where
  s : Rs
  H : List Rec
  X : Sls
  v : SlV
  pv : Value
  D : List (SlV × Sls)
  bv : Value
  BL : List Nat
  sv : Value
  SL : List Int
def bkV (b : Nat) : Value := .pointer (some ⟨b, 0, none⟩)
def inV (z : Int) : Value := .int .i64 z
theorem RfP.keepE {B : Nat} {w w' : World} {d : Nat} {X : Sls} {v : SlV} {pv : Value} {H : List (SlV × Sls)} {O : Nat → Prop} (h : RfP B w d X v pv H) (t : Tch O w w') (hO : ∀ j, rfB d v pv H j → ¬ O j) (hE : ∀ j, docE X H j → ¬ O j) : RfP B w' d X v pv H := by
  have ke : ∀ Y, (∀ q ∈ Y, ∀ j, q.1.2.v.ownBlock = some j → ¬ O j) → SlsAt w B Y → SlsAt w' B Y := fun Y hy hY q hq => ⟨(hY q hq).1.keep (fun k hk => t.block k ((hY q hq).1.lt hk) (hy q hq k hk)), (hY q hq).2⟩
  refine ⟨(t.block d (Array.getElem?_eq_some_iff.1 h.cell).1 (hO d (.inl rfl))).trans h.cell, h.sl.keep fun j hj => t.block j (h.sl.lt hj) (hO j (.inr (.inl hj))), ke X (fun q hq j e => hE j (.inl ⟨q, hq, e⟩)) h.en, h.past.keep fun j hj => ?_, fun q hq => ⟨(h.ph q hq).1.keep fun j hj => t.block j ((h.ph q hq).1.lt hj) (hO j (.inr (.inr (.inr ⟨q, hq, hj⟩)))), ke _ (fun z hz j e => hE j (.inr ⟨q, hq, z, hz, e⟩)) (h.ph q hq).2.1, (h.ph q hq).2.2⟩, h.dB, h.ap, h.ap2, h.ok⟩
  obtain ⟨_, c, hc⟩ := h.past.ge j hj
  exact t.block j (Array.getElem?_eq_some_iff.1 hc).1 (hO j (.inr (.inr (.inl hj))))
theorem rf_typ {B : Nat} {w : World} {d : Nat} {X : Sls} {v : SlV} {pv : Value} {H : List (SlV × Sls)} (h : RfP B w d X v pv H) {j : Nat} (hj : rfB d v pv H j) : B ≤ j ∧ ∃ c ty, w.heap[j]? = some (.cells c ty (0, 0)) ∧ (ty = 95 ∨ ty = 174 ∨ ty = 92) := by
  rcases hj with rfl | e | e | ⟨q, hq, e⟩
  · exact ⟨h.dB, _, _, h.cell, .inl rfl⟩
  · obtain ⟨hb, c, hc⟩ := h.sl.lo.cells e
    exact ⟨hb, c, _, hc, .inr (.inl rfl)⟩
  · obtain ⟨hb, c, hc⟩ := h.past.ge j e
    exact ⟨hb, c, _, hc, .inr (.inr rfl)⟩
  · obtain ⟨hb, c, hc⟩ := (h.ph q hq).1.lo.cells e
    exact ⟨hb, c, _, hc, .inr (.inl rfl)⟩
theorem doc_typ {B : Nat} {w : World} {d : Nat} {X : Sls} {v : SlV} {pv : Value} {H : List (SlV × Sls)} (h : RfP B w d X v pv H) {j : Nat} (hj : docE X H j) : ∃ c, w.heap[j]? = some (.cells c 85 (0, 0)) := by
  rcases hj with ⟨q, hq, e⟩ | ⟨g, hg, q, hq, e⟩
  · obtain ⟨_, c, hc⟩ := (h.en q hq).1.cells e
    exact ⟨c, hc⟩
  · obtain ⟨_, c, hc⟩ := ((h.ph g hg).2.1 q hq).1.cells e
    exact ⟨c, hc⟩
theorem Hist.keepT {w w' : World} {O : Nat → Prop} (t : Tch O w w') (hO : ∀ j c ty fr, w.heap[j]? = some (.cells c ty fr) → (ty = 125 ∨ ty = 68 ∨ ty = 114 ∨ ty = 176) → ¬ O j) : ∀ {H : List Rec}, Hist w H → Hist w' H
  | [], _ => trivial
  | r :: H, h => by
    refine ⟨?_, Hist.keepT t hO h.2⟩
    have h := h.1
    have go : ∀ {j : Nat} {c : Array Value} {ty : TypeId} {fr : Nat × Nat}, w.heap[j]? = some (.cells c ty fr) → (ty = 125 ∨ ty = 68 ∨ ty = 114 ∨ ty = 176) → w'.heap[j]? = some (.cells c ty fr) := fun h1 h2 => (t.block _ (Array.getElem?_eq_some_iff.1 h1).1 (hO _ _ _ _ h1 h2)).trans h1
    refine ⟨go h.b (.inl rfl), go h.p (.inr (.inl rfl)), go h.t (.inr (.inr (.inl rfl))), h.l.keep (fun k hk => ?_), h.ok, h.bok, h.bn⟩
    obtain ⟨_, c, hc⟩ := h.l.cells hk
    exact (go hc (.inr (.inr (.inr rfl)))).trans hc.symm
def plB (x : Nat) (p : Pz) (j : Nat) : Prop := j = x ∨ p.bv.ownBlock = some j ∨ p.sv.ownBlock = some j
structure PM (K : Nat → Option Obj) (W : World) (B1 B2 x ro d : Nat) (p : Pz) : Prop where
  ra : RgAt W B1 p.s p.H
  rf : RfP B2 W d p.X p.v p.pv p.D
  r : p.s.r = ro
  cell : W.heap[x]? = some (.cells #[.pointer (some ⟨ro, 0, none⟩), .pointer (some ⟨d, 0, none⟩), p.bv, p.sv] 33 (0, 0))
  backs : OwnV W B2 80 p.bv (p.BL.map bkV)
  steps : OwnV W B2 3 p.sv (p.SL.map inV)
  bk : ∀ b ∈ p.BL, IsBk W b
  ap : ∀ j, docE p.X p.D j → ¬ p.s.all j
  xB : B2 ≤ x
  kf : ∀ j o, K j = some o → W.heap[j]? = some o ∧ ¬ p.s.all j ∧ ¬ rfB d p.v p.pv p.D j ∧ ¬ plB x p j ∧ ¬ docE p.X p.D j
section
variable {W W' w0 : World} {B1 B2 x ro d : Nat} {p : Pz}
theorem PM.below (h : PM K W B1 B2 x ro d p) (b : Below W.heap.size W W') : PM K W' B1 B2 x ro d p :=
  ⟨h.ra.below b, h.rf.below b, h.r, (b.block _ (Array.getElem?_eq_some_iff.1 h.cell).1).trans h.cell, h.backs.below b, h.steps.below b, fun j hj => by obtain ⟨c, hc⟩ := h.bk j hj; exact ⟨c, (b.block _ (Array.getElem?_eq_some_iff.1 hc).1).trans hc⟩, h.ap, h.xB, fun j o ho => ⟨(b.block j (Array.getElem?_eq_some_iff.1 (h.kf j o ho).1).1).trans (h.kf j o ho).1, (h.kf j o ho).2⟩⟩
theorem PM.notRf (h : PM K W B1 B2 x ro d p) {j : Nat} (hj : rfB d p.v p.pv p.D j) : ¬ p.s.all j := by
  obtain ⟨_, c, ty, hc, e⟩ := rf_typ h.rf hj
  exact h.ra.mem.other hc (by rcases e with rfl | rfl | rfl <;> decide) (by rcases e with rfl | rfl | rfl <;> decide)
theorem PM.prog (h : PM K W B1 B2 x ro d p) {s' : Rs} {H' : List Rec} (ra : RgAt W' B1 s' H') (hr : s'.r = p.s.r) (al : ∀ j, s'.all j → p.s.all j ∨ W.heap.size ≤ j) (t : Tch p.s.all W W') : PM K W' B1 B2 x ro d { p with s := s', H := H' } := by
  have go : ∀ {j : Nat} {c : Array Value} {ty : TypeId} {fr : Nat × Nat}, W.heap[j]? = some (.cells c ty fr) → ty ≠ 91 → ty ≠ 85 → W'.heap[j]? = some (.cells c ty fr) := fun h1 h2 h3 => (t.block _ (Array.getElem?_eq_some_iff.1 h1).1 (h.ra.mem.other h1 h2 h3)).trans h1
  refine ⟨ra, h.rf.keepE t (fun j hj => h.notRf hj) h.ap, hr.trans h.r, go h.cell (by decide) (by decide), h.backs.keep fun j hj => ?_, h.steps.keep fun j hj => ?_, fun b hb => ?_, fun j hj ha => ?_, h.xB, fun j o ho => ?_⟩
  · obtain ⟨_, c, hc⟩ := h.backs.ge j hj
    exact (go hc (by decide) (by decide)).trans hc.symm
  · obtain ⟨_, c, hc⟩ := h.steps.ge j hj
    exact (go hc (by decide) (by decide)).trans hc.symm
  · obtain ⟨c, hc⟩ := h.bk b hb
    exact ⟨c, go hc (by decide) (by decide)⟩
  · rcases al j ha with q | q
    · exact h.ap j hj q
    · obtain ⟨c, hc⟩ := doc_typ h.rf hj
      have := (Array.getElem?_eq_some_iff.1 hc).1
      omega
  · obtain ⟨k1, k2, k3, k4, k5⟩ := h.kf j o ho
    have lt := (Array.getElem?_eq_some_iff.1 k1).1
    exact ⟨(t.block j lt k2).trans k1, fun ha => (al j ha).elim k2 (fun q => by omega), k3, k4, k5⟩
theorem PM.progB (h : PM K W B1 B2 x ro d p) (t : Tch p.s.all W W') (b : Below w0.heap.size w0 W) (h1 : w0.heap.size ≤ B1) : Below w0.heap.size w0 W' := b.trans (t.below b.size (fun j hj => Nat.le_trans h1 (h.ra.mem.allLo hj)))
theorem PM.doc (h : PM K W B1 B2 x ro d p) {X' : Sls} {v' : SlV} {pv' : Value} {D' : List (SlV × Sls)} (rf : RfP B2 W' d X' v' pv' D') (t : Tch (fun j => rfB d p.v p.pv p.D j) W W') (dE : ∀ j, docE X' D' j → docE p.X p.D j ∨ W.heap.size ≤ j) (rB : ∀ j, rfB d v' pv' D' j → rfB d p.v p.pv p.D j ∨ W.heap.size ≤ j) : PM K W' B1 B2 x ro d { p with X := X', v := v', pv := pv', D := D' } := by
  have go : ∀ {j : Nat} {c : Array Value} {ty : TypeId} {fr : Nat × Nat}, W.heap[j]? = some (.cells c ty fr) → ty ≠ 95 → ty ≠ 174 → ty ≠ 92 → ¬ rfB d p.v p.pv p.D j := fun h1 h2 h3 h4 q => by
    obtain ⟨_, c, ty, hc, e⟩ := rf_typ h.rf q
    have := two_types h1 hc
    rw [this] at h2 h3 h4
    rcases e with e | e | e
    · exact h2 e
    · exact h3 e
    · exact h4 e
  have go' : ∀ {j : Nat} {c : Array Value} {ty : TypeId} {fr : Nat × Nat}, W.heap[j]? = some (.cells c ty fr) → ty ≠ 95 → ty ≠ 174 → ty ≠ 92 → W'.heap[j]? = some (.cells c ty fr) := fun h1 h2 h3 h4 => (t.block _ (Array.getElem?_eq_some_iff.1 h1).1 (go h1 h2 h3 h4)).trans h1
  refine ⟨h.ra.keep (fun j hj => t.block j (h.ra.mem.allLt hj) (fun q => h.notRf q hj)) (h.ra.hist.keepT t fun j c ty fr hc e => ?_), rf, h.r, go' h.cell (by decide) (by decide) (by decide), h.backs.keep fun j hj => ?_, h.steps.keep fun j hj => ?_, fun b hb => ?_, fun j hj ha => ?_, h.xB, fun j o ho => ?_⟩
  · exact go hc (by rcases e with rfl | rfl | rfl | rfl <;> decide) (by rcases e with rfl | rfl | rfl | rfl <;> decide) (by rcases e with rfl | rfl | rfl | rfl <;> decide)
  · obtain ⟨_, c, hc⟩ := h.backs.ge j hj
    exact (go' hc (by decide) (by decide) (by decide)).trans hc.symm
  · obtain ⟨_, c, hc⟩ := h.steps.ge j hj
    exact (go' hc (by decide) (by decide) (by decide)).trans hc.symm
  · obtain ⟨c, hc⟩ := h.bk b hb
    exact ⟨c, go' hc (by decide) (by decide) (by decide)⟩
  · rcases dE j hj with q | q
    · exact h.ap j q ha
    · have := h.ra.mem.allLt ha
      omega
  · obtain ⟨k1, k2, k3, k4, k5⟩ := h.kf j o ho
    have lt := (Array.getElem?_eq_some_iff.1 k1).1
    exact ⟨(t.block j lt k3).trans k1, k2, fun ha => (rB j ha).elim k3 (fun q => by omega), k4, fun ha => (dE j ha).elim k5 (fun q => by omega)⟩
theorem PM.docB (h : PM K W B1 B2 x ro d p) (t : Tch (fun j => rfB d p.v p.pv p.D j) W W') (b : Below w0.heap.size w0 W) (h1 : w0.heap.size ≤ B2) : Below w0.heap.size w0 W' := b.trans (t.below b.size (fun j hj => Nat.le_trans h1 (rf_typ h.rf hj).1))
theorem pl_typ (h : PM K W B1 B2 x ro d p) {j : Nat} (hj : plB x p j) : B2 ≤ j ∧ ∃ c ty, W.heap[j]? = some (.cells c ty (0, 0)) ∧ (ty = 33 ∨ ty = 80 ∨ ty = 3) := by
  rcases hj with rfl | e | e
  · exact ⟨h.xB, _, _, h.cell, .inl rfl⟩
  · obtain ⟨hb, c, hc⟩ := h.backs.ge j e
    exact ⟨hb, c, _, hc, .inr (.inl rfl)⟩
  · obtain ⟨hb, c, hc⟩ := h.steps.ge j e
    exact ⟨hb, c, _, hc, .inr (.inr rfl)⟩
theorem PM.lists (h : PM K W B1 B2 x ro d p) {bv' : Value} {BL' : List Nat} {sv' : Value} {SL' : List Int} (t : Tch (plB x p) W W')
    (hc : W'.heap[x]? = some (.cells #[.pointer (some ⟨ro, 0, none⟩), .pointer (some ⟨d, 0, none⟩), bv', sv'] 33 (0, 0))) (h1 : OwnV W' B2 80 bv' (BL'.map bkV)) (h2 : OwnV W' B2 3 sv' (SL'.map inV)) (hb : ∀ b ∈ BL', IsBk W b) (nB : ∀ j, (bv'.ownBlock = some j ∨ sv'.ownBlock = some j) → plB x p j ∨ W.heap.size ≤ j) : PM K W' B1 B2 x ro d { p with bv := bv', BL := BL', sv := sv', SL := SL' } := by
  have go : ∀ {j : Nat} {c : Array Value} {ty : TypeId} {fr : Nat × Nat}, W.heap[j]? = some (.cells c ty fr) → ty ≠ 33 → ty ≠ 80 → ty ≠ 3 → ¬ plB x p j := fun h1 h2 h3 h4 q => by
    obtain ⟨_, c, ty, hc, e⟩ := pl_typ h q
    have := two_types h1 hc
    rw [this] at h2 h3 h4
    rcases e with e | e | e
    · exact h2 e
    · exact h3 e
    · exact h4 e
  have nall : ∀ {j}, plB x p j → ¬ p.s.all j := fun hj => by
    obtain ⟨_, c, ty, hc, e⟩ := pl_typ h hj
    exact h.ra.mem.other hc (by rcases e with rfl | rfl | rfl <;> decide) (by rcases e with rfl | rfl | rfl <;> decide)
  refine ⟨h.ra.keep (fun j hj => t.block j (h.ra.mem.allLt hj) (fun q => nall q hj)) (h.ra.hist.keepT t fun j c ty fr hc e => ?_), h.rf.keepE t (fun j hj => ?_) (fun j hj => ?_), h.r, hc, h1, h2, fun b hb0 => ?_, h.ap, h.xB, fun j o ho => ?_⟩
  · exact go hc (by rcases e with rfl | rfl | rfl | rfl <;> decide) (by rcases e with rfl | rfl | rfl | rfl <;> decide) (by rcases e with rfl | rfl | rfl | rfl <;> decide)
  · obtain ⟨_, c, ty, hc, e⟩ := rf_typ h.rf hj
    exact go hc (by rcases e with rfl | rfl | rfl <;> decide) (by rcases e with rfl | rfl | rfl <;> decide) (by rcases e with rfl | rfl | rfl <;> decide)
  · obtain ⟨c, hc⟩ := doc_typ h.rf hj
    exact go hc (by decide) (by decide) (by decide)
  · obtain ⟨c, hc⟩ := hb b hb0
    exact ⟨c, (t.block _ (Array.getElem?_eq_some_iff.1 hc).1 (go hc (by decide) (by decide) (by decide))).trans hc⟩
  · obtain ⟨k1, k2, k3, k4, k5⟩ := h.kf j o ho
    have lt := (Array.getElem?_eq_some_iff.1 k1).1
    exact ⟨(t.block j lt k4).trans k1, k2, k3, fun ha => ha.elim (fun e => k4 (.inl e)) (fun e => (nB j e).elim k4 (fun q => by omega)), k5⟩
theorem PM.listsB (h : PM K W B1 B2 x ro d p) (t : Tch (plB x p) W W') (b : Below w0.heap.size w0 W) (h1 : w0.heap.size ≤ B2) : Below w0.heap.size w0 W' := b.trans (t.below b.size (fun j hj => Nat.le_trans h1 (pl_typ h hj).1))
end
inductive HM : List Rec → PF → List (SlV × Sls) → Prop
  | nil {f : PF} : HM [] f []
  | step {r : Rec} {t : List Rec} {f : PF} {D : List (SlV × Sls)} {h : SlV × Sls} : (∀ q, entF h.2 q = updF f r.p r.bef q) → HM t (updF f r.p r.bef) D → HM (r :: t) f (D ++ [h])
theorem HM.len {H : List Rec} {f : PF} {D : List (SlV × Sls)} (h : HM H f D) : H.length = D.length := by
  induction h with
  | nil => rfl
  | step _ _ ih => simp [ih]
theorem HM.front {r : Rec} {t : List Rec} {f : PF} {D : List (SlV × Sls)} (h : HM (r :: t) f D) : ∃ P g, D = P ++ [g] ∧ (∀ q, entF g.2 q = updF f r.p r.bef q) ∧ HM t (updF f r.p r.bef) P := by
  cases h with
  | step a b => exact ⟨_, _, rfl, a, b⟩
structure Link (p : Pz) : Prop where
  eq : ∀ q, entF p.X q = liOf p.s.P q
  hm : HM p.H (liOf p.s.P) p.D
  len : p.BL.length = p.SL.length
  nd : (p.H.map (·.bk)).Nodup
  one : ∀ (i j : Nat) b, p.BL[i]? = some b → p.BL[j]? = some b → i = j
  hit : ∀ (i : Nat) z, p.SL[i]? = some z → (z = 0 ∧ ∃ b, p.BL[i]? = some b ∧ b ∉ p.H.map (·.bk)) ∨ (∃ n : Nat, z = (n : Int) ∧ 1 ≤ n ∧ n ≤ p.H.length ∧ ∃ r, p.H[p.H.length - n]? = some r ∧ p.BL[i]? = some r.bk)
  all : ∀ n : Nat, 1 ≤ n → n ≤ p.H.length → ∃ i : Nat, p.SL[i]? = some (n : Int)
theorem app_last {α : Type} {L : List α} {x y : α} {i : Nat} (h : (L ++ [x])[i]? = some y) : (i < L.length ∧ L[i]? = some y) ∨ (i = L.length ∧ y = x) := by
  by_cases hi : i < L.length
  · rw [List.getElem?_append_left hi] at h; exact Or.inl ⟨hi, h⟩
  · rw [List.getElem?_append_right (by omega)] at h
    have := (List.getElem?_eq_some_iff.1 h).1
    simp at this
    obtain rfl : i = L.length := by omega
    simp at h
    exact Or.inr ⟨rfl, h.symm⟩
section
variable {p : Pz}
theorem Link.len2 (h : Link p) : p.H.length = p.D.length := h.hm.len
theorem Link.done (h : Link p) {q : PlK} {L : List EnV} {r : Rec} {s' : Rs} (rp : r.p = q) (rb : r.bef = liOf p.s.P q) (li : ∀ z, liOf s'.P z = if z = q then L else liOf p.s.P z) {X' : Sls} {g : SlV × Sls} (eg : ∀ z, entF g.2 z = entF p.X z) (eX : ∀ z, entF X' z = if z = q then L else entF p.X z) (h1 : ∀ z ∈ p.H, z.bk ≠ r.bk) (h2 : ∀ b ∈ p.BL, b ≠ r.bk) (v' : SlV) (pv' bv sv : Value) :
    Link ⟨s', r :: p.H, X', v', pv', p.D ++ [g], bv, p.BL ++ [r.bk], sv, p.SL ++ [((p.D.length + 1 : Nat) : Int)]⟩ := by
  have hl := h.len2
  have eu : updF (liOf s'.P) r.p r.bef = liOf p.s.P := by
    funext z
    unfold updF
    rw [rp, rb, li]
    by_cases e : z = q
    · rw [if_pos e, e]
    · rw [if_neg e, if_neg e]
  refine ⟨fun z => ?_, HM.step (fun z => ?_) (by rw [eu]; exact h.hm), by simp [h.len], ?_, fun i j b hi hj => ?_, fun i z hz => ?_, fun m m1 m2 => ?_⟩
  · show entF X' z = liOf s'.P z
    rw [eX, li, h.eq]
  · rw [eu, eg, h.eq]
  · simp only [List.map_cons, List.nodup_cons]
    refine ⟨fun hm => ?_, h.nd⟩
    obtain ⟨z, hz, e⟩ := List.mem_map.1 hm
    exact h1 z hz e
  · rcases app_last hi with ⟨_, q⟩ | ⟨e1, q⟩
    · rcases app_last hj with ⟨_, q'⟩ | ⟨_, q'⟩
      · exact h.one i j b q q'
      · exact absurd q' (h2 b (List.mem_of_getElem? q))
    · rcases app_last hj with ⟨_, q'⟩ | ⟨e2, _⟩
      · exact absurd q (h2 b (List.mem_of_getElem? q'))
      · rw [e1, e2]
  · simp only at hz ⊢
    rcases app_last hz with ⟨hi, q⟩ | ⟨rfl, rfl⟩
    · rw [List.getElem?_append_left (by rw [h.len]; exact hi)]
      rcases h.hit i z q with ⟨z0, b, hb, hn⟩ | ⟨m, zm, m1, m2, r', hr, hb⟩
      · refine Or.inl ⟨z0, b, hb, ?_⟩
        simp only [List.map_cons, List.mem_cons, not_or]
        exact ⟨h2 b (List.mem_of_getElem? hb), hn⟩
      · refine Or.inr ⟨m, zm, m1, by simp; omega, r', ?_, hb⟩
        rw [List.length_cons, show p.H.length + 1 - m = (p.H.length - m) + 1 by omega, List.getElem?_cons_succ]
        exact hr
    · refine Or.inr ⟨p.D.length + 1, rfl, by omega, by simp; omega, r, ?_, ?_⟩
      · rw [List.length_cons, hl, Nat.sub_self]; rfl
      · rw [← h.len]; simp
  · simp only [List.length_cons] at m2
    by_cases e : m = p.D.length + 1
    · subst e
      exact ⟨p.SL.length, by simp⟩
    · obtain ⟨i, hi⟩ := h.all m m1 (by omega)
      exact ⟨i, by simp only; rw [List.getElem?_append_left (List.getElem?_eq_some_iff.1 hi).1]; exact hi⟩
theorem Link.undone (h : Link p) {r : Rec} {H' : List Rec} (hH : p.H = r :: H') {P : List (SlV × Sls)} {g : SlV × Sls} (hP : p.D = P ++ [g]) {i : Nat} (hi : p.SL[i]? = some ((p.D.length : Nat) : Int)) {s' : Rs} (li : ∀ z, liOf s'.P z = if z = r.p then r.bef else liOf p.s.P z) (v' : SlV) (pv' sv : Value) :
    Link ⟨s', H', g.2, v', pv', P, p.bv, p.BL, sv, p.SL.set i 0⟩ ∧ p.BL[i]? = some r.bk := by
  have hl := h.len2
  have hm := h.hm
  have hnd := h.nd
  rw [hH] at hm hnd
  obtain ⟨P', g', e1, e2, e4⟩ := hm.front
  rw [hP] at e1
  obtain ⟨rfl, e5⟩ := List.append_inj' e1 rfl
  obtain rfl : g = g' := by simpa using e5
  have eu : liOf s'.P = updF (liOf p.s.P) r.p r.bef := by
    funext z
    unfold updF
    exact li z
  have hHl : p.H.length = H'.length + 1 := by rw [hH]; rfl
  have hPl : p.D.length = P.length + 1 := by rw [hP]; simp
  simp only [List.map_cons, List.nodup_cons] at hnd
  have hb : p.BL[i]? = some r.bk := by
    rcases h.hit i _ hi with ⟨z, _⟩ | ⟨m, zm, m1, m2, r', hr, hb⟩
    · omega
    · obtain rfl : m = p.D.length := by omega
      rw [hl, Nat.sub_self, hH] at hr
      simp at hr
      subst hr
      exact hb
  refine ⟨⟨fun z => by simp only; rw [e2, eu], by simp only; rw [eu]; exact e4, by simp [h.len], hnd.2, h.one, fun j z hz => ?_, fun m m1 m2 => ?_⟩, hb⟩
  · simp only at hz ⊢
    by_cases e : j = i
    · subst e
      rw [List.getElem?_set_self (List.getElem?_eq_some_iff.1 hi).1] at hz
      simp at hz
      exact Or.inl ⟨hz.symm, r.bk, hb, hnd.1⟩
    · rw [List.getElem?_set_ne (fun q => e q.symm)] at hz
      rcases h.hit j z hz with ⟨z0, b, hq, hn⟩ | ⟨m, zm, m1, m2, r', hr, hq⟩
      · refine Or.inl ⟨z0, b, hq, ?_⟩
        rw [hH] at hn
        exact fun q => hn (by simp only [List.map_cons, List.mem_cons]; exact Or.inr q)
      · have hne : m ≠ p.H.length := by
          rintro rfl
          rw [Nat.sub_self, hH] at hr
          simp at hr
          subst hr
          exact e (h.one j i r.bk hq hb)
        refine Or.inr ⟨m, zm, m1, by omega, r', ?_, hq⟩
        rw [hH, List.length_cons, show H'.length + 1 - m = (H'.length - m) + 1 by omega, List.getElem?_cons_succ] at hr
        exact hr
  · simp only at m2 ⊢
    obtain ⟨j, hj⟩ := h.all m m1 (by omega)
    refine ⟨j, ?_⟩
    rw [List.getElem?_set_ne]
    · exact hj
    · rintro rfl
      rw [hi] at hj
      simp at hj
      omega
inductive Meets (p : Pz) (i : Nat) : Prop
  | past (b : Nat) (z : Int) : p.SL[i]? = some z → p.BL[i]? = some b → ptrH p.H ≠ some (⟨b, 0, Option.none⟩ : Addr) → (z < 1 ∨ z ≠ (p.D.length : Int)) → Meets p i
  | last (r : Rec) (H' : List Rec) (P : List (SlV × Sls)) (g : SlV × Sls) : p.H = r :: H' → p.D = P ++ [g] → p.SL[i]? = some ((p.D.length : Nat) : Int) → p.BL[i]? = some r.bk → Meets p i
theorem Link.meets (h : Link p) {i : Nat} (hi : i < p.BL.length) : Meets p i := by
  have hl := h.len2
  obtain ⟨z, hz⟩ : ∃ z, p.SL[i]? = some z := ⟨_, List.getElem?_eq_getElem (by rw [← h.len]; exact hi)⟩
  have hp : ∀ b, b ∉ p.H.map (·.bk) → ptrH p.H ≠ some (⟨b, 0, Option.none⟩ : Addr) := by
    intro b hb e
    cases hH : p.H with
    | nil => rw [hH] at e; simp [ptrH] at e
    | cons r t =>
      rw [hH] at e hb
      simp [ptrH] at e
      exact hb (by simp [e])
  rcases h.hit i z hz with ⟨rfl, b, hb, hn⟩ | ⟨m, rfl, m1, m2, r, hr, hb⟩
  · exact .past b 0 hz hb (hp b hn) (Or.inl (by decide))
  · by_cases e : m = p.H.length
    · subst e
      rw [Nat.sub_self] at hr
      cases hH : p.H with
      | nil => rw [hH] at hr; simp at hr
      | cons r0 t =>
        rw [hH] at hr
        simp at hr
        subst hr
        have hm := h.hm
        rw [hH] at hm
        obtain ⟨P, L, e1, _⟩ := hm.front
        exact .last r0 t P L hH e1 (by rw [← hl]; exact hz) hb
    · refine .past r.bk m hz hb ?_ (Or.inr (by omega))
      cases hH : p.H with
      | nil => rw [hH] at hr; simp at hr
      | cons r0 t =>
        have hnd := h.nd
        rw [hH] at hr hnd m2 e
        simp only [List.map_cons, List.nodup_cons] at hnd
        rw [List.length_cons] at hr m2 e
        rw [show t.length + 1 - m = (t.length - m) + 1 by omega, List.getElem?_cons_succ] at hr
        simp only [ptrH]
        intro q
        injection q with q
        injection q with q
        exact hnd.1 (by rw [q]; exact List.mem_map.2 ⟨r, List.mem_of_getElem? hr, rfl⟩)
end
variable {K : Nat → Option Obj}
structure PY (K : Nat → Option Obj) (w0 : World) (B1 B2 x ro d m : Nat) (p : Pz) (W : World) : Prop where
  pm : PM K W B1 B2 x ro d p
  ln : Link p
  mb : p.BL.length ≤ m
  md : p.D.length ≤ m
  mx : ∀ Y, (Y = p.X ∨ ∃ h ∈ p.D, Y = h.2) → Y.length ≤ m ∧ ∀ q, (entF Y q).length ≤ m
  bel : Below w0.heap.size w0 W
  l1 : w0.heap.size ≤ B1
  l2 : w0.heap.size ≤ B2
  h1 : B1 ≤ W.heap.size
  h2 : B2 ≤ W.heap.size
section
variable {w0 W W' : World} {B1 B2 x ro d m : Nat} {p : Pz}
theorem PY.below (h : PY K w0 B1 B2 x ro d m p W) (b : Below W.heap.size W W') : PY K w0 B1 B2 x ro d m p W' := ⟨h.pm.below b, h.ln, h.mb, h.md, h.mx, h.bel.trans (b.mono h.bel.size), h.l1, h.l2, Nat.le_trans h.h1 b.size, Nat.le_trans h.h2 b.size⟩
theorem PY.mono (h : PY K w0 B1 B2 x ro d m p W) {k : Nat} (hk : m ≤ k) : PY K w0 B1 B2 x ro d k p W := ⟨h.pm, h.ln, Nat.le_trans h.mb hk, Nat.le_trans h.md hk, fun Y hY => ⟨Nat.le_trans (h.mx Y hY).1 hk, fun q => Nat.le_trans ((h.mx Y hY).2 q) hk⟩, h.bel, h.l1, h.l2, h.h1, h.h2⟩
theorem PY.pr (h : PY K w0 B1 B2 x ro d m p W) (hm : m ≤ 1100000000000) : Pr W B1 p.s p.H B2 d p.X p.v p.pv p.D := ⟨h.pm.ra, h.pm.rf, h.ln.eq, Nat.le_trans (h.mx _ (.inl rfl)).1 hm⟩
theorem PM.ldr (h : PM K W B1 B2 x ro d p) : (Instr.loadAt 26 (.pointer (some ⟨x, 0 + 0, none⟩))).run Tryz.prog W = .ok (.pointer (some ⟨ro, 0, none⟩)) W := by
  have hc : W.cell? ⟨x, 0, none⟩ = some (.pointer (some ⟨ro, 0, none⟩)) := (cell_of_row W x 0 _ _ _ h.cell).trans rfl
  go_simp
theorem PM.ldd (h : PM K W B1 B2 x ro d p) : (Instr.loadAt 28 (.pointer (some ⟨x, 0 + 1, none⟩))).run Tryz.prog W = .ok (.pointer (some ⟨d, 0, none⟩)) W := by
  have hc : W.cell? ⟨x, 1, none⟩ = some (.pointer (some ⟨d, 0, none⟩)) := (cell_of_row W x 1 _ _ _ h.cell).trans rfl
  go_simp
theorem PM.ldb (h : PM K W B1 B2 x ro d p) {a : Option Addr} {n c : Nat} (e : p.bv = .slice a n c) : W.cell? ⟨x, 2, none⟩ = some (.slice a n c) ∧ (Instr.loadAt 30 (.pointer (some ⟨x, 0 + 2, none⟩))).run Tryz.prog W = .ok (.slice a n c) W := by
  have hc : W.cell? ⟨x, 2, none⟩ = some (.slice a n c) := by rw [← e]; exact (cell_of_row W x 2 _ _ _ h.cell).trans rfl
  exact ⟨hc, by go_simp⟩
theorem PM.lds (h : PM K W B1 B2 x ro d p) {a : Option Addr} {n c : Nat} (e : p.sv = .slice a n c) : W.cell? ⟨x, 3, none⟩ = some (.slice a n c) ∧ (Instr.loadAt 31 (.pointer (some ⟨x, 0 + 3, none⟩))).run Tryz.prog W = .ok (.slice a n c) W := by
  have hc : W.cell? ⟨x, 3, none⟩ = some (.slice a n c) := by rw [← e]; exact (cell_of_row W x 3 _ _ _ h.cell).trans rfl
  exact ⟨hc, by go_simp⟩
end
theorem OwnV.form {w : World} {B : Nat} {e : TypeId} {v : Value} {X : List Value} (h : OwnV w B e v X) {i : Nat} (hi : i < X.length) : ∃ bb c, v = .slice (some ⟨bb, 0, none⟩) X.length c := by
  rcases h.2 with ⟨_, hn⟩ | ⟨g, cap, cur, rfl, _⟩
  · omega
  · exact ⟨g, cap, rfl⟩
theorem OwnV.hit {w : World} {B : Nat} {e : TypeId} {v : Value} {X : List Value} (h : OwnV w B e v X) {bb n c : Nat} (ev : v = .slice (some ⟨bb, 0, none⟩) n c) {i : Nat} {u : Value} (hu : X[i]? = some u) : w.cell? ⟨bb, i, none⟩ = some u := by
  obtain ⟨a, cap, e1, _, hv, _⟩ := h.open
  rw [ev] at e1
  injection e1 with e1 _ _
  rcases hv with rfl | ⟨b, off, e2, hc⟩
  · simp at hu
  · rw [e2] at e1
    injection e1 with e1
    injection e1 with e1 e3
    subst e1 e3
    have := hc i u hu
    rwa [Nat.zero_add] at this
theorem ld_bkp {W : World} {g i : Nat} {p : Option Addr} (hc : W.cell? ⟨g, i, none⟩ = some (.pointer p)) : (Instr.loadAt 80 (.pointer (some ⟨g, 0 + i, none⟩))).run Tryz.prog W = .ok (.pointer p) W := by
  rw [Nat.zero_add]
  go_simp
theorem ld_int {W : World} {g i : Nat} {z : Int} (hc : W.cell? ⟨g, i, none⟩ = some (.int .i64 z)) : (Instr.loadAt 3 (.pointer (some ⟨g, 0 + i, none⟩))).run Tryz.prog W = .ok (.int .i64 z) W := by
  rw [Nat.zero_add]
  go_simp
theorem own_setI {w : World} {B : Nat} {v : Value} {R : List Int} (own : OwnV w B 3 v (R.map inV)) {g n c : Nat} (ev : v = .slice (some ⟨g, 0, none⟩) n c) {i : Nat} (hi : i < R.length) (t : Int) :
    ∃ w', (Instr.storeAt 3 (.pointer (some ⟨g, 0 + i, none⟩)) (.int .i64 t)).run Tryz.prog w = .ok () w' ∧ OwnV w' B 3 v ((R.set i t).map inV) ∧ Tch (fun j => j = g) w w' ∧ B ≤ g := by
  rcases own.2 with ⟨e, hz⟩ | ⟨gb, cap, cur, e, hbg, hg, hnc, hcm, hcs, htake⟩
  · rw [List.length_map] at hz; omega
  · rw [ev] at e
    injection e with e1 e2 e3
    injection e1 with e1
    injection e1 with e1
    subst e1
    rw [List.length_map] at e2 hnc
    rw [List.length_map, Nat.mul_one] at htake
    have hl : i < cur.size := by rw [hcs]; omega
    obtain ⟨u, hu⟩ : ∃ u, R[i]? = some u := ⟨_, List.getElem?_eq_getElem hi⟩
    have hcell : w.cell? ⟨g, i, none⟩ = some (.int .i64 u) := by
      rw [cell_of_row w g i cur 3 (0, 0) hg]
      have h1 : (R.map inV)[i]? = some (.int .i64 u) := by rw [List.getElem?_map, hu]; rfl
      rw [← htake, List.getElem?_take, if_pos hi] at h1
      simpa using h1
    have hf := frozen_of_row w g i _ _ hg
    have es : (Instr.storeAt 3 (.pointer (some ⟨g, 0 + i, none⟩)) (.int .i64 t)).run Tryz.prog w = .ok () (w.setCell ⟨g, i, none⟩ (.int .i64 t)) := by
      rw [Nat.zero_add]
      go_simp
    refine ⟨_, es, ⟨by simp, .inr ⟨g, cap, cur.set! i (.int .i64 t), by rw [ev, List.length_map, List.length_set, e2, e3], hbg, ?_, by rw [List.length_map, List.length_set]; exact hnc, hcm, by simp [hcs], ?_⟩⟩, ⟨rfl, rfl, rfl, by simp [World.setCell], fun j _ hj => Go.heap_setCell_other _ _ _ _ hj⟩, hbg⟩
    · obtain ⟨hl2, hv⟩ := Array.getElem?_eq_some_iff.1 hg
      simp [World.setCell, hl2, Array.getElem_modify_self, hv]
    · rw [List.length_map, List.length_set, Nat.mul_one, List.map_set, ← htake]
      simp [Array.set!, List.take_set, inV]
def LastIs (p : Pz) (z : Int) : Prop := (z = -1 ∧ p.H = []) ∨ ∃ i : Nat, z = (i : Int) ∧ i < p.BL.length ∧ p.SL[i]? = some ((p.D.length : Nat) : Int) ∧ 0 < p.D.length
theorem dlast_any {w0 w : World} {B1 B2 x ro d m : Nat} {p : Pz} (h : PY K w0 B1 B2 x ro d m p w) (hm : m ≤ 1300000000000) :
    Calls Tryz.prog 15 #[.pointer (some ⟨x, 0, none⟩)] w fun e w' => ∃ z, e = .returned (.int .i64 z) ∧ LastIs p z ∧ Below w.heap.size w w' := by
  have hmb := h.mb
  have hlen := h.ln.len
  obtain ⟨a, c, esv, hle, hv, _⟩ := h.pm.steps.open
  rw [List.length_map] at esv hle
  obtain ⟨n, hnn⟩ : ∃ n, p.SL.length = n := ⟨_, rfl⟩
  have HN := hidMk hnn
  have HLEN := hidMk hlen
  have hnb : n ≤ 1300000000000 := by omega
  rw [hnn] at esv
  have HP := hidMk (fun (W : World) (b : Below w.heap.size w W) => h.pm.below b)
  have HC3 := hidMk (fun (W : World) (b : Below w.heap.size w W) => (h.pm.below b).lds esv)
  have HS := hidMk (fun (W : World) (b : Below w.heap.size w W) => rf_steps (h.pm.below b).rf)
  have HV := hidMk (fun (i : Nat) (z : Int) (hz : p.SL[i]? = some z) => show ∃ bb, a = some ⟨bb, 0, none⟩ ∧ ∀ W, Below w.heap.size w W → W.cell? ⟨bb, i, none⟩ = some (.int .i64 z) by
    obtain ⟨bb, cc, e⟩ := h.pm.steps.form (i := i) (by rw [List.length_map]; exact (List.getElem?_eq_some_iff.1 hz).1)
    refine ⟨bb, ?_, fun W b => (h.pm.below b).steps.hit e (by rw [List.getElem?_map, hz]; rfl)⟩
    rw [esv] at e
    injection e)
  have HK := hidMk h.ln
  obtain ⟨dl, hdl⟩ : ∃ l, p.D.length = l := ⟨_, rfl⟩
  rw [hdl] at HS
  have HDL := hidMk hdl
  clear hv esv hle hnn hlen hmb h hm hdl
  go_enter Tryz.func15, Tryz.ntmps15
  go_wp2
  go_loopw [3] (fun v3 wr => ∃ i : Nat, v3 = .int .i64 (i : Int) ∧ i ≤ n ∧ Hid ((∀ j, j < i → p.SL[j]? ≠ some (dl : Int) ∨ dl = 0) ∧ Below w.heap.size w wr)) (fun v3 wr => n - (match v3 with | .int _ i => i.toNat | _ => 0))
  case atStart => exact ⟨0, rfl, Nat.zero_le _, fun j hj => (by omega), Below.refl _ _⟩
  case round =>
    obtain ⟨i, rfl, hin, HI⟩ := hrel
    have c3 := (HC3.out wr HI.out.2).1
    by_cases hi : i < n
    · obtain ⟨z, hz⟩ : ∃ z, p.SL[i]? = some z := ⟨_, List.getElem?_eq_getElem (by have := HN.out; omega)⟩
      obtain ⟨bb, rfl, hcz⟩ := HV.out i z hz
      have HZ := hidMk (And.intro hz hcz)
      clear hz hcz
      have h63 : n ≤ 9223372036854775807 := by omega
      have NEXT : Hid (z ≠ (dl : Int) ∨ dl = 0 → ∀ j, j < i + 1 → p.SL[j]? ≠ some (dl : Int) ∨ dl = 0) := fun hne j hj => by
        by_cases ej : j = i
        · subst ej
          exact hne.imp (fun h q => by rw [HZ.out.1] at q; exact h (Option.some.inj q)) id
        · exact HI.out.1 j (by omega)
      have beld : Below w.heap.size w wr.drew := HI.out.2.drew
      go_upto_region 4 with fail
      clear c3
      by_cases hz : z > 0
      · obtain ⟨r, hr⟩ : ∃ r, (z == (dl : Int)) = r := ⟨_, rfl⟩
        refine las4t (x := x) (d := d) (g := bb) (o := 0) (n := n) (c := c) (i := i) (s := z) (z := (dl : Int)) (r := r) (fun W => Below w.heap.size w W) _ wr _ rfl rfl rfl hi h63 hz hr beld (fun W b => (HC3.out W b).2) (fun W b => ld_int (HZ.out.2 W b)) (fun W b => (HP.out W b).ldd) ?_ ?_
        · refine (HS.out _ beld).mono ?_
          rintro e w' ⟨rfl, hw⟩
          rw [hw]
          exact ⟨rfl, beld⟩
        intro a' w' hw' ha
        subst ha
        simp only [Act.put, List.setIfInBounds_toArray, List.set_cons_zero, List.set_cons_succ]
        have HW := hidMk hw'
        have HR := hidMk hr
        have HZP := hidMk hz
        clear hw' hr hz beld
        cases r
        · go_wp2
          rw [show ((i : Int) + 1) = ((i + 1 : Nat) : Int) by omega]
          refine ⟨⟨i + 1, rfl, hi, NEXT.out (.inl (by simpa using HR.out)), HW.out⟩, ?_⟩
          show n - ((i + 1 : Nat) : Int).toNat < n - (i : Int).toNat
          omega
        · go_wp2
          go_ret
          have e : z = (dl : Int) := by simpa using HR.out
          have hz2 := HZ.out.1
          rw [e] at hz2
          have := HZP.out
          exact ⟨_, rfl, Or.inr ⟨i, rfl, by have := HLEN.out; have := HN.out; omega, by rw [HDL.out]; exact hz2, by rw [HDL.out]; omega⟩, HW.out⟩
      · refine las4f (x := x) (g := bb) (o := 0) (n := n) (c := c) (i := i) (s := z) (fun W => Below w.heap.size w W) _ wr _ rfl rfl rfl hi h63 hz beld (fun W b => (HC3.out W b).2) (fun W b => ld_int (HZ.out.2 W b)) ?_
        intro a' w' hw' ha
        subst ha
        simp only [Act.put, List.setIfInBounds_toArray, List.set_cons_zero, List.set_cons_succ]
        have HW := hidMk hw'
        have HZP := hidMk hz
        clear hw' hz beld
        go_wp2
        rw [show ((i : Int) + 1) = ((i + 1 : Nat) : Int) by omega]
        refine ⟨⟨i + 1, rfl, hi, NEXT.out (by have := HZP.out; omega), HW.out⟩, ?_⟩
        show n - ((i + 1 : Nat) : Int).toNat < n - (i : Int).toNat
        omega
    · obtain rfl : i = n := by omega
      clear hi hin
      go_wp2
      go_ret
      refine ⟨_, rfl, Or.inl ⟨rfl, ?_⟩, HI.out.2⟩
      have hl := HK.out.len2
      cases hH : p.H with
      | nil => rfl
      | cons r t =>
        obtain ⟨j, hj⟩ := HK.out.all p.H.length (by rw [hH]; simp) (Nat.le_refl _)
        rw [hl, HDL.out] at hj
        rcases HI.out.1 j (by rw [← HN.out]; exact (List.getElem?_eq_some_iff.1 hj).1) with q | q
        · exact absurd hj q
        · rw [← HDL.out, ← hl, hH] at q; simp at q
variable {K : Nat → Option Obj}
theorem PM.setStep {W : World} {B1 B2 x ro d : Nat} {p : Pz} (h : PM K W B1 B2 x ro d p) {g n c : Nat} (ev : p.sv = .slice (some ⟨g, 0, none⟩) n c) {i : Nat} (hi : i < p.SL.length) :
    ∃ W', (Instr.storeAt 3 (.pointer (some ⟨g, 0 + i, none⟩)) (.int .i64 0)).run Tryz.prog W = .ok () W' ∧ PM K W' B1 B2 x ro d { p with SL := p.SL.set i 0 } ∧ Tch (plB x p) W W' := by
  obtain ⟨W', e, o, t, _⟩ := own_setI h.steps ev hi 0
  have hg : p.sv.ownBlock = some g := by rw [ev]; rfl
  obtain ⟨_, cg, hcg⟩ := h.steps.ge g hg
  have ne : ∀ {j : Nat} {c : Array Value} {ty : TypeId} {fr : Nat × Nat}, W.heap[j]? = some (.cells c ty fr) → ty ≠ 3 → j ≠ g := fun h1 h2 e => by
    rw [e] at h1
    exact h2 (two_types h1 hcg)
  have t' : Tch (plB x p) W W' := t.mono fun j _ e => Or.inr (Or.inr (by rw [e]; exact hg))
  refine ⟨W', e, ?_, t'⟩
  have := h.lists (bv' := p.bv) (BL' := p.BL) (sv' := p.sv) (SL' := p.SL.set i 0) t' ((t.block x (Array.getElem?_eq_some_iff.1 h.cell).1 (ne h.cell (by decide))).trans h.cell) (h.backs.keep fun j hj => ?_) o h.bk (fun j hj => .inl (.inr hj))
  · exact this
  · obtain ⟨_, cb, hcb⟩ := h.backs.ge j hj
    exact t.block j (Array.getElem?_eq_some_iff.1 hcb).1 (ne hcb (by decide))
def UPost (K : Nat → Option Obj) (w0 : World) (B1 B2 x ro d m : Nat) (p : Pz) (z : Int) (e : Ending) (w' : World) : Prop := e = .returned (.bool true) ∧ ∃ p', PY K w0 B1 B2 x ro d m p' w' ∧ (z = -1 → p'.H.length = p.H.length - 1)
def DL (K : Nat → Option Obj) (B1 B2 x ro d : Nat) (p : Pz) (W : World) : Prop := ∃ q : Pz, PM K W B1 B2 x ro d q ∧ q.bv = p.bv ∧ q.BL = p.BL ∧ q.sv = p.sv ∧ q.SL = p.SL
def F5 (K : Nat → Option Obj) (w0 : World) (B1 B2 x ro d : Nat) (p : Pz) (r : Rec) (H' : List Rec) (W : World) : Prop := ∃ s' : Rs, PM K W B1 B2 x ro d { p with s := s', H := H' } ∧ (∀ q, liOf s'.P q = if q = r.p then r.bef else liOf p.s.P q) ∧ Below w0.heap.size w0 W ∧ B1 ≤ W.heap.size ∧ B2 ≤ W.heap.size
def F6 (K : Nat → Option Obj) (w0 : World) (B1 B2 x ro d : Nat) (p : Pz) (r : Rec) (H' : List Rec) (P : List (SlV × Sls)) (g : SlV × Sls) (W : World) : Prop := ∃ (s' : Rs) (pv2 : Value), PM K W B1 B2 x ro d { p with s := s', H := H', X := g.2, v := g.1, pv := pv2, D := P } ∧ (∀ q, liOf s'.P q = if q = r.p then r.bef else liOf p.s.P q) ∧ Below w0.heap.size w0 W ∧ B1 ≤ W.heap.size ∧ B2 ≤ W.heap.size
theorem F5.drew {w0 : World} {B1 B2 x ro d : Nat} {p : Pz} {r : Rec} {H' : List Rec} {W : World} (h : F5 K w0 B1 B2 x ro d p r H' W) : F5 K w0 B1 B2 x ro d p r H' W.drew := by
  obtain ⟨s', pm, li, b, s1, s2⟩ := h
  exact ⟨s', pm.below (Below.refl _ _).drew, li, b.drew, s1, s2⟩
set_option maxHeartbeats 8000000 in
theorem dundo_any {w0 w : World} {B1 B2 x ro d m : Nat} {p : Pz} (h : PY K w0 B1 B2 x ro d m p w) (hm : m ≤ 1100000000000) {z : Int} (hz : -9223372036854775808 ≤ z ∧ z ≤ 9223372036854775807) :
    Calls Tryz.prog 16 #[.pointer (some ⟨x, 0, none⟩), .int .i64 z] w (UPost K w0 B1 B2 x ro d m p z) := by
  have HH := hidMk h
  obtain ⟨n, hnn⟩ : ∃ n, p.BL.length = n := ⟨_, rfl⟩
  have HN := hidMk hnn
  have hnb : n ≤ 1300000000000 := by have := h.mb; omega
  obtain ⟨a, ca, eav, hle, _, _⟩ := h.pm.backs.open
  rw [List.length_map, hnn] at eav
  have HAV := hidMk eav
  have HL := hidMk (dlast_any h (by omega))
  have SAME : Hid (∀ W, Below w.heap.size w W → (z = -1 → p.H = []) → UPost K w0 B1 B2 x ro d m p z (.returned (.bool true)) W) := fun W b hh => ⟨rfl, p, h.below b, fun e => by rw [hh e]; rfl⟩
  have HUN := hidMk (undo_nil ro)
  clear eav hle hnn h
  go_enter Tryz.func16, Tryz.ntmps16
  by_cases hz1 : z = -1
  · subst hz1
    clear hz
    go_upto_region 3 with (first
      | (go_at_call 15; refine HL.out.mono ?_; rintro e w1 ⟨z1, rfl, hz1, b1⟩; clear HL)
      | fail)
    rcases hz1 with ⟨rfl, hH⟩ | ⟨i, rfl, hi0, hsi, hpos⟩
    · have c0 : w1.cell? ⟨x, 0, none⟩ = some (.pointer (some ⟨ro, 0, none⟩)) := (cell_of_row w1 x 0 _ _ _ (HH.out.below b1).pm.cell).trans rfl
      have c2 := ((HH.out.below b1).pm.ldb HAV.out).1
      have HHH := hidMk hH
      have HB1 := hidMk b1
      clear hH b1
      go_wp2_with (first
        | (go_at_call 21; refine (HUN.out _).mono ?_; rintro e w2 ⟨rfl, hw2⟩; obtain rfl : w1 = w2 := hw2.symm)
        | fail)
      go_ret
      exact SAME.out w1 HB1.out (fun _ => HHH.out)
    · have hi : i < n := by have := HN.out; omega
      obtain ⟨r, H', hH⟩ : ∃ r H', p.H = r :: H' := by
        have := HH.out.ln.len2
        cases e : p.H with
        | nil => rw [e] at this; simp at this; omega
        | cons r t => exact ⟨r, t, rfl⟩
      obtain ⟨P, g, hP⟩ : ∃ P g, p.D = P ++ [g] := by
        have hm := HH.out.ln.hm
        rw [hH] at hm
        obtain ⟨P, g, e, _⟩ := hm.front
        exact ⟨P, g, e⟩
      have hbi : p.BL[i]? = some r.bk := by
        rcases HH.out.ln.hit i _ hsi with ⟨q, _⟩ | ⟨k, zk, m1, m2, r', hr, hb⟩
        · omega
        · have hl := HH.out.ln.len2
          obtain rfl : k = p.H.length := by omega
          rw [Nat.sub_self, hH] at hr
          simp at hr
          subst hr
          exact hb
      obtain ⟨bb, c, ebv⟩ := HH.out.pm.backs.form (i := i) (by rw [List.length_map, HN.out]; exact hi)
      obtain ⟨sb, sc, esv⟩ := HH.out.pm.steps.form (i := i) (by rw [List.length_map, ← HH.out.ln.len, HN.out]; exact hi)
      rw [List.length_map, HN.out] at ebv
      rw [List.length_map, ← HH.out.ln.len, HN.out] at esv
      obtain ⟨z, hz⟩ : ∃ z, (-1 : Int) = z := ⟨_, rfl⟩
      have UZ : Hid (∀ e W, UPost K w0 B1 B2 x ro d m p z e W → UPost K w0 B1 B2 x ro d m p (-1) e W) := fun e W q => by rw [hz]; exact q
      clear hz
      have BV := hidMk ebv
      have SVV := hidMk esv
      obtain ⟨lE, hlE⟩ : ∃ l, p.D.length = l := ⟨_, rfl⟩
      have hPl : p.D.length = P.length + 1 := by rw [hP]; simp
      have HFX := hidMk (And.intro hH (And.intro hP (And.intro hsi (And.intro hbi (And.intro hPl hlE)))))
      have C5 : Hid (∀ W, Below w.heap.size w W → Calls Tryz.prog 21 #[.pointer (some ⟨ro, 0, none⟩), .pointer (some ⟨r.bk, 0, none⟩)] W fun e w' => e = .returned (.int .i64 0) ∧ DL K B1 B2 x ro d p w' ∧ F5 K w0 B1 B2 x ro d p r H' w') := by
        intro W b
        have q := HH.out.below b
        have ra := q.pm.ra
        rw [HFX.out.1] at ra
        have cc := undo_any ra q.h1
        rw [q.pm.r] at cc
        refine cc.mono ?_
        rintro e w' ⟨rfl, s', ra', hr', li, al, t⟩
        have pm' := q.pm.prog ra' hr' al t
        exact ⟨rfl, ⟨_, pm', rfl, rfl, rfl, rfl⟩, s', pm', li, q.pm.progB t q.bel q.l1, Nat.le_trans q.h1 t.size, Nat.le_trans q.h2 t.size⟩
      have C6 : Hid (∀ W, F5 K w0 B1 B2 x ro d p r H' W → Calls Tryz.prog 58 #[.pointer (some ⟨d, 0, none⟩), .int .i64 (lE : Int)] W fun e w' => e = .returned (.int .i64 0) ∧ DL K B1 B2 x ro d p w' ∧ F6 K w0 B1 B2 x ro d p r H' P g w') := by
        rintro W ⟨s', pm, li, bel, s1, s2⟩
        have rf := pm.rf
        simp only at rf
        rw [HFX.out.2.1] at rf
        have cc := rf_undo_ok rf (by have := HH.out.md; have := HFX.out.2.2.2.2.1; omega)
        rw [← HFX.out.2.2.2.2.1, HFX.out.2.2.2.2.2] at cc
        refine cc.mono ?_
        rintro e w' ⟨rfl, pv2, rf', t, hpv⟩
        have t' : Tch (fun j => rfB d p.v p.pv p.D j) W w' := t.mono fun j _ e => Or.inl e
        have pm' := pm.doc rf' t' (fun j hj => Or.inl (by
          simp only
          rw [HFX.out.2.1]
          rcases hj with ⟨q, hq, e⟩ | ⟨k, hk, q, hq, e⟩
          · exact Or.inr ⟨g, by simp, q, hq, e⟩
          · exact Or.inr ⟨k, by simp [hk], q, hq, e⟩)) (fun j hj => Or.inl (by
            simp only
            rw [HFX.out.2.1]
            rcases hj with e | e | e | ⟨q, hq, e⟩
            · exact Or.inl e
            · exact Or.inr (Or.inr (Or.inr ⟨g, by simp, e⟩))
            · exact Or.inr (Or.inr (Or.inl (hpv ▸ e)))
            · exact Or.inr (Or.inr (Or.inr ⟨q, by simp [hq], e⟩))))
        exact ⟨rfl, ⟨_, pm', rfl, rfl, rfl, rfl⟩, s', pv2, pm', li, pm.docB t' bel HH.out.l2, Nat.le_trans s1 t.size, Nat.le_trans s2 t.size⟩
      have C10 : Hid (∀ W, F6 K w0 B1 B2 x ro d p r H' P g W → ∃ w1, (Instr.storeAt 3 (.pointer (some ⟨sb, 0 + i, none⟩)) (.int .i64 0)).run Tryz.prog W = .ok () w1 ∧ UPost K w0 B1 B2 x ro d m p z (.returned (.bool true)) w1) := by
        rintro W ⟨s', pv2, pm, li, bel, s1, s2⟩
        obtain ⟨w1, e1, pm1, t1⟩ := pm.setStep SVV.out (i := i) (by have := HN.out; have := HH.out.ln.len; simp only; omega)
        have lk := (HH.out.ln.undone HFX.out.1 HFX.out.2.1 HFX.out.2.2.1 li g.1 pv2 p.sv).1
        refine ⟨w1, e1, rfl, _, ⟨pm1, lk, HH.out.mb, ?_, fun Y hY => ?_, pm.listsB t1 bel HH.out.l2, HH.out.l1, HH.out.l2, Nat.le_trans s1 t1.size, Nat.le_trans s2 t1.size⟩, fun _ => ?_⟩
        · have := HH.out.md
          have := HFX.out.2.2.2.2.1
          simp only
          omega
        · refine HH.out.mx Y (Or.inr ?_)
          rw [HFX.out.2.1]
          rcases hY with rfl | ⟨k, hk, rfl⟩
          · exact ⟨g, by simp, rfl⟩
          · exact ⟨k, by simp [show k ∈ P from hk], rfl⟩
        · rw [HFX.out.1]; rfl
      have L5 : Hid (∀ W, DL K B1 B2 x ro d p W → (Instr.loadAt 26 (.pointer (some ⟨x, 0 + 0, none⟩))).run Tryz.prog W = .ok (.pointer (some ⟨ro, 0, none⟩)) W ∧ (Instr.loadAt 28 (.pointer (some ⟨x, 0 + 1, none⟩))).run Tryz.prog W = .ok (.pointer (some ⟨d, 0, none⟩)) W ∧ (Instr.loadAt 30 (.pointer (some ⟨x, 0 + 2, none⟩))).run Tryz.prog W = .ok (.slice (some ⟨bb, 0, none⟩) n c) W ∧ (Instr.loadAt 31 (.pointer (some ⟨x, 0 + 3, none⟩))).run Tryz.prog W = .ok (.slice (some ⟨sb, 0, none⟩) n sc) W ∧ (Instr.loadAt 80 (.pointer (some ⟨bb, 0 + i, none⟩))).run Tryz.prog W = .ok (.pointer (some ⟨r.bk, 0, none⟩)) W ∧ (Instr.loadAt 3 (.pointer (some ⟨sb, 0 + i, none⟩))).run Tryz.prog W = .ok (.int .i64 (lE : Int)) W) := by
        rintro W ⟨q, pm, e1, e2, e3, e4⟩
        refine ⟨pm.ldr, pm.ldd, (pm.ldb (e1.trans BV.out)).2, (pm.lds (e3.trans SVV.out)).2, ld_bkp (pm.backs.hit (e1.trans BV.out) ?_), ld_int (pm.steps.hit (e3.trans SVV.out) ?_)⟩
        · rw [List.getElem?_map, e2, HFX.out.2.2.2.1]; rfl
        · rw [List.getElem?_map, e4, HFX.out.2.2.1, HFX.out.2.2.2.2.2]; rfl
      have bd := hidMk b1.drew
      have D0 : Hid (DL K B1 B2 x ro d p _) := (⟨p, (HH.out.below bd.out).pm, rfl, rfl, rfl, rfl⟩ : DL K B1 B2 x ro d p _)
      have c2 := ((HH.out.below b1).pm.ldb BV.out).1
      have h63 : n ≤ 9223372036854775807 := by omega
      clear hH hP hsi hbi hlE hPl ebv esv
      go_upto_region 5 with fail
      clear c2
      refine dun5 (x := x) (rb := ro) (g := bb) (o := 0) (n := n) (c := c) (i := i) (bk := r.bk) (z := 0) (DL K B1 B2 x ro d p) (F5 K w0 B1 B2 x ro d p r H') _ _ _ rfl rfl rfl hi h63 D0.out (fun W h => (L5.out W h).1) (fun W h => (L5.out W h).2.2.1) (fun W h => (L5.out W h).2.2.2.2.1) (C5.out _ bd.out) ?_
      intro a' w3 hf ha
      subst ha
      simp only [Act.put, List.setIfInBounds_toArray, List.set_cons_zero, List.set_cons_succ]
      have K3 := hidMk (F5.drew hf)
      clear hf C5 D0 bd b1
      have D3 : Hid (DL K B1 B2 x ro d p w3.drew) := by
        obtain ⟨s', pm, _⟩ := K3.out
        exact ⟨_, pm, rfl, rfl, rfl, rfl⟩
      go_upto_region 6 with fail
      refine dun6 (x := x) (d := d) (g := sb) (o := 0) (n := n) (c := sc) (i := i) (z := 0) (s := (lE : Int)) (DL K B1 B2 x ro d p) (F6 K w0 B1 B2 x ro d p r H' P g) _ w3 _ rfl rfl rfl hi h63 D3.out (fun W h => (L5.out W h).2.1) (fun W h => (L5.out W h).2.2.2.1) (fun W h => (L5.out W h).2.2.2.2.2) (C6.out _ K3.out) ?_
      intro a' w4 hf ha
      subst ha
      simp only [Act.put, List.setIfInBounds_toArray, List.set_cons_zero, List.set_cons_succ]
      obtain ⟨w5, e5, u5⟩ := C10.out w4 hf
      have L4 : Hid ((Instr.loadAt 31 (.pointer (some ⟨x, 0 + 3, none⟩))).run Tryz.prog w4 = .ok (.slice (some ⟨sb, 0, none⟩) n sc) w4) := by
        obtain ⟨s', pv2, pm, _⟩ := hf
        exact (pm.lds SVV.out).2
      have HE5 := hidMk e5
      have HU5 := hidMk u5
      clear hf C6 C10 K3 D3 e5 u5 L5
      go_upto_region 10 with fail
      refine dun10 (x := x) (g := sb) (o := 0) (n := n) (c := sc) (i := i) (w1 := w5) _ w4 _ rfl rfl rfl hi h63 (fun W e => by rw [e]; exact L4.out) HE5.out ?_
      intro a' w6 hf ha
      subst ha
      obtain rfl : w5 = w6 := hf.symm
      simp only [Act.put, List.setIfInBounds_toArray, List.set_cons_zero, List.set_cons_succ]
      clear HE5 L4
      go_wp2
      go_ret
      exact UZ.out _ _ HU5.out
  · by_cases hneg : z < 0
    · have c0 : w.cell? ⟨x, 0, none⟩ = some (.pointer (some ⟨ro, 0, none⟩)) := (cell_of_row w x 0 _ _ _ HH.out.pm.cell).trans rfl
      have c2 := (HH.out.pm.ldb HAV.out).1
      have HZ1 := hidMk hz1
      clear HL
      go_wp2_with (first
        | (go_at_call 21; refine (HUN.out _).mono ?_; rintro e w2 ⟨rfl, hw2⟩; obtain rfl : w = w2 := hw2.symm)
        | fail)
      go_ret
      exact SAME.out w (Below.refl _ _) (fun e => absurd e HZ1.out)
    · by_cases hge : (n : Int) ≤ z
      · have c0 : w.cell? ⟨x, 0, none⟩ = some (.pointer (some ⟨ro, 0, none⟩)) := (cell_of_row w x 0 _ _ _ HH.out.pm.cell).trans rfl
        have c2 := (HH.out.pm.ldb HAV.out).1
        have HZ1 := hidMk hz1
        clear HL
        go_wp2_with (first
          | (go_at_call 21; refine (HUN.out _).mono ?_; rintro e w2 ⟨rfl, hw2⟩; obtain rfl : w = w2 := hw2.symm)
          | fail)
        go_ret
        exact SAME.out w (Below.refl _ _) (fun e => absurd e HZ1.out)
      · obtain ⟨i, hzi⟩ : ∃ i : Nat, z = (i : Int) := ⟨z.toNat, by omega⟩
        have hi : i < n := by omega
        have UZ : Hid (∀ e W, UPost K w0 B1 B2 x ro d m p z e W → UPost K w0 B1 B2 x ro d m p (i : Int) e W) := fun e W q => by rw [← hzi]; exact q
        have SAMEi : Hid (∀ W, Below w.heap.size w W → UPost K w0 B1 B2 x ro d m p (i : Int) (.returned (.bool true)) W) := fun W b => by rw [← hzi]; exact SAME.out W b (fun e => by omega)
        rw [hzi]
        clear hneg hge hz1 hzi hz SAME HL
        have b1 : Below w.heap.size w w := Below.refl _ _
        obtain ⟨bb, c, ebv⟩ := HH.out.pm.backs.form (i := i) (by rw [List.length_map, HN.out]; exact hi)
        obtain ⟨sb, sc, esv⟩ := HH.out.pm.steps.form (i := i) (by rw [List.length_map, ← HH.out.ln.len, HN.out]; exact hi)
        rw [List.length_map, HN.out] at ebv
        rw [List.length_map, ← HH.out.ln.len, HN.out] at esv
        rcases HH.out.ln.meets (i := i) (by rw [HN.out]; exact hi) with ⟨b, s, hsi, hbi, hne, hs⟩ | ⟨r, H', P, g, hH, hP, hsi, hbi⟩
        · have BV := hidMk ebv
          have SVV := hidMk esv
          have C5 : Hid (∀ W, Below w.heap.size w W → Calls Tryz.prog 21 #[.pointer (some ⟨ro, 0, none⟩), .pointer (some ⟨b, 0, none⟩)] W fun e w' => e = .returned (.int .i64 2) ∧ Below w.heap.size w w' ∧ Below w.heap.size w w') := by
            intro W b0
            have q := HH.out.below b0
            have cc := undo_not q.pm.ra (q.pm.bk b (List.mem_of_getElem? hbi)) hne
            rw [q.pm.r] at cc
            refine cc.mono ?_
            rintro e w' ⟨rfl, hw⟩
            rw [hw]
            exact ⟨rfl, b0, b0⟩
          have C6 : Hid (∀ W, Below w.heap.size w W → Calls Tryz.prog 58 #[.pointer (some ⟨d, 0, none⟩), .int .i64 s] W fun e w' => e = .returned (.int .i64 2) ∧ Below w.heap.size w w' ∧ Below w.heap.size w w') := by
            intro W b0
            refine (rf_undo_not (HH.out.below b0).pm.rf hs).mono ?_
            rintro e w' ⟨rfl, hw⟩
            rw [hw]
            exact ⟨rfl, b0, b0⟩
          have L5 : Hid (∀ W, Below w.heap.size w W → (Instr.loadAt 26 (.pointer (some ⟨x, 0 + 0, none⟩))).run Tryz.prog W = .ok (.pointer (some ⟨ro, 0, none⟩)) W ∧ (Instr.loadAt 28 (.pointer (some ⟨x, 0 + 1, none⟩))).run Tryz.prog W = .ok (.pointer (some ⟨d, 0, none⟩)) W ∧ (Instr.loadAt 30 (.pointer (some ⟨x, 0 + 2, none⟩))).run Tryz.prog W = .ok (.slice (some ⟨bb, 0, none⟩) n c) W ∧ (Instr.loadAt 31 (.pointer (some ⟨x, 0 + 3, none⟩))).run Tryz.prog W = .ok (.slice (some ⟨sb, 0, none⟩) n sc) W ∧ (Instr.loadAt 80 (.pointer (some ⟨bb, 0 + i, none⟩))).run Tryz.prog W = .ok (.pointer (some ⟨b, 0, none⟩)) W ∧ (Instr.loadAt 3 (.pointer (some ⟨sb, 0 + i, none⟩))).run Tryz.prog W = .ok (.int .i64 s) W) := by
            intro W b0
            have pm := (HH.out.below b0).pm
            refine ⟨pm.ldr, pm.ldd, (pm.ldb BV.out).2, (pm.lds SVV.out).2, ld_bkp (pm.backs.hit BV.out ?_), ld_int (pm.steps.hit SVV.out ?_)⟩
            · rw [List.getElem?_map, hbi]; rfl
            · rw [List.getElem?_map, hsi]; rfl
          have bd := hidMk b1.drew
          have c2 := (HH.out.pm.ldb BV.out).1
          have h63 : n ≤ 9223372036854775807 := by omega
          clear hsi hbi hne hs ebv esv
          go_upto_region 5 with fail
          clear c2
          refine dun5 (x := x) (rb := ro) (g := bb) (o := 0) (n := n) (c := c) (i := i) (bk := b) (z := 2) (fun W => Below w.heap.size w W) (fun W => Below w.heap.size w W) _ w _ rfl rfl rfl hi h63 bd.out (fun W h => (L5.out W h).1) (fun W h => (L5.out W h).2.2.1) (fun W h => (L5.out W h).2.2.2.2.1) (C5.out _ bd.out) ?_
          intro a' w3 hf ha
          subst ha
          simp only [Act.put, List.setIfInBounds_toArray, List.set_cons_zero, List.set_cons_succ]
          have K3 : Hid (Below w.heap.size w w3.drew) := hf.drew
          clear hf C5 bd b1
          go_upto_region 6 with fail
          refine dun6 (x := x) (d := d) (g := sb) (o := 0) (n := n) (c := sc) (i := i) (z := 2) (s := s) (fun W => Below w.heap.size w W) (fun W => Below w.heap.size w W) _ w3 _ rfl rfl rfl hi h63 K3.out (fun W h => (L5.out W h).2.1) (fun W h => (L5.out W h).2.2.2.1) (fun W h => (L5.out W h).2.2.2.2.2) (C6.out _ K3.out) ?_
          intro a' w4 hf ha
          subst ha
          simp only [Act.put, List.setIfInBounds_toArray, List.set_cons_zero, List.set_cons_succ]
          have K4 := hidMk hf
          clear hf C6 K3 L5
          go_wp2
          go_ret
          exact SAMEi.out w4 K4.out
        · clear SAMEi
          have BV := hidMk ebv
          have SVV := hidMk esv
          obtain ⟨lE, hlE⟩ : ∃ l, p.D.length = l := ⟨_, rfl⟩
          have hPl : p.D.length = P.length + 1 := by rw [hP]; simp
          have HFX := hidMk (And.intro hH (And.intro hP (And.intro hsi (And.intro hbi (And.intro hPl hlE)))))
          have C5 : Hid (∀ W, Below w.heap.size w W → Calls Tryz.prog 21 #[.pointer (some ⟨ro, 0, none⟩), .pointer (some ⟨r.bk, 0, none⟩)] W fun e w' => e = .returned (.int .i64 0) ∧ DL K B1 B2 x ro d p w' ∧ F5 K w0 B1 B2 x ro d p r H' w') := by
            intro W b
            have q := HH.out.below b
            have ra := q.pm.ra
            rw [HFX.out.1] at ra
            have cc := undo_any ra q.h1
            rw [q.pm.r] at cc
            refine cc.mono ?_
            rintro e w' ⟨rfl, s', ra', hr', li, al, t⟩
            have pm' := q.pm.prog ra' hr' al t
            exact ⟨rfl, ⟨_, pm', rfl, rfl, rfl, rfl⟩, s', pm', li, q.pm.progB t q.bel q.l1, Nat.le_trans q.h1 t.size, Nat.le_trans q.h2 t.size⟩
          have C6 : Hid (∀ W, F5 K w0 B1 B2 x ro d p r H' W → Calls Tryz.prog 58 #[.pointer (some ⟨d, 0, none⟩), .int .i64 (lE : Int)] W fun e w' => e = .returned (.int .i64 0) ∧ DL K B1 B2 x ro d p w' ∧ F6 K w0 B1 B2 x ro d p r H' P g w') := by
            rintro W ⟨s', pm, li, bel, s1, s2⟩
            have rf := pm.rf
            simp only at rf
            rw [HFX.out.2.1] at rf
            have cc := rf_undo_ok rf (by have := HH.out.md; have := HFX.out.2.2.2.2.1; omega)
            rw [← HFX.out.2.2.2.2.1, HFX.out.2.2.2.2.2] at cc
            refine cc.mono ?_
            rintro e w' ⟨rfl, pv2, rf', t, hpv⟩
            have t' : Tch (fun j => rfB d p.v p.pv p.D j) W w' := t.mono fun j _ e => Or.inl e
            have pm' := pm.doc rf' t' (fun j hj => Or.inl (by
              simp only
              rw [HFX.out.2.1]
              rcases hj with ⟨q, hq, e⟩ | ⟨k, hk, q, hq, e⟩
              · exact Or.inr ⟨g, by simp, q, hq, e⟩
              · exact Or.inr ⟨k, by simp [hk], q, hq, e⟩)) (fun j hj => Or.inl (by
                simp only
                rw [HFX.out.2.1]
                rcases hj with e | e | e | ⟨q, hq, e⟩
                · exact Or.inl e
                · exact Or.inr (Or.inr (Or.inr ⟨g, by simp, e⟩))
                · exact Or.inr (Or.inr (Or.inl (hpv ▸ e)))
                · exact Or.inr (Or.inr (Or.inr ⟨q, by simp [hq], e⟩))))
            exact ⟨rfl, ⟨_, pm', rfl, rfl, rfl, rfl⟩, s', pv2, pm', li, pm.docB t' bel HH.out.l2, Nat.le_trans s1 t.size, Nat.le_trans s2 t.size⟩
          have C10 : Hid (∀ W, F6 K w0 B1 B2 x ro d p r H' P g W → ∃ w1, (Instr.storeAt 3 (.pointer (some ⟨sb, 0 + i, none⟩)) (.int .i64 0)).run Tryz.prog W = .ok () w1 ∧ UPost K w0 B1 B2 x ro d m p z (.returned (.bool true)) w1) := by
            rintro W ⟨s', pv2, pm, li, bel, s1, s2⟩
            obtain ⟨w1, e1, pm1, t1⟩ := pm.setStep SVV.out (i := i) (by have := HN.out; have := HH.out.ln.len; simp only; omega)
            have lk := (HH.out.ln.undone HFX.out.1 HFX.out.2.1 HFX.out.2.2.1 li g.1 pv2 p.sv).1
            refine ⟨w1, e1, rfl, _, ⟨pm1, lk, HH.out.mb, ?_, fun Y hY => ?_, pm.listsB t1 bel HH.out.l2, HH.out.l1, HH.out.l2, Nat.le_trans s1 t1.size, Nat.le_trans s2 t1.size⟩, fun _ => ?_⟩
            · have := HH.out.md
              have := HFX.out.2.2.2.2.1
              simp only
              omega
            · refine HH.out.mx Y (Or.inr ?_)
              rw [HFX.out.2.1]
              rcases hY with rfl | ⟨k, hk, rfl⟩
              · exact ⟨g, by simp, rfl⟩
              · exact ⟨k, by simp [show k ∈ P from hk], rfl⟩
            · rw [HFX.out.1]; rfl
          have L5 : Hid (∀ W, DL K B1 B2 x ro d p W → (Instr.loadAt 26 (.pointer (some ⟨x, 0 + 0, none⟩))).run Tryz.prog W = .ok (.pointer (some ⟨ro, 0, none⟩)) W ∧ (Instr.loadAt 28 (.pointer (some ⟨x, 0 + 1, none⟩))).run Tryz.prog W = .ok (.pointer (some ⟨d, 0, none⟩)) W ∧ (Instr.loadAt 30 (.pointer (some ⟨x, 0 + 2, none⟩))).run Tryz.prog W = .ok (.slice (some ⟨bb, 0, none⟩) n c) W ∧ (Instr.loadAt 31 (.pointer (some ⟨x, 0 + 3, none⟩))).run Tryz.prog W = .ok (.slice (some ⟨sb, 0, none⟩) n sc) W ∧ (Instr.loadAt 80 (.pointer (some ⟨bb, 0 + i, none⟩))).run Tryz.prog W = .ok (.pointer (some ⟨r.bk, 0, none⟩)) W ∧ (Instr.loadAt 3 (.pointer (some ⟨sb, 0 + i, none⟩))).run Tryz.prog W = .ok (.int .i64 (lE : Int)) W) := by
            rintro W ⟨q, pm, e1, e2, e3, e4⟩
            refine ⟨pm.ldr, pm.ldd, (pm.ldb (e1.trans BV.out)).2, (pm.lds (e3.trans SVV.out)).2, ld_bkp (pm.backs.hit (e1.trans BV.out) ?_), ld_int (pm.steps.hit (e3.trans SVV.out) ?_)⟩
            · rw [List.getElem?_map, e2, HFX.out.2.2.2.1]; rfl
            · rw [List.getElem?_map, e4, HFX.out.2.2.1, HFX.out.2.2.2.2.2]; rfl
          have bd := hidMk b1.drew
          have D0 : Hid (DL K B1 B2 x ro d p _) := (⟨p, (HH.out.below bd.out).pm, rfl, rfl, rfl, rfl⟩ : DL K B1 B2 x ro d p _)
          have c2 := ((HH.out.below b1).pm.ldb BV.out).1
          have h63 : n ≤ 9223372036854775807 := by omega
          clear hH hP hsi hbi hlE hPl ebv esv
          go_upto_region 5 with fail
          clear c2
          refine dun5 (x := x) (rb := ro) (g := bb) (o := 0) (n := n) (c := c) (i := i) (bk := r.bk) (z := 0) (DL K B1 B2 x ro d p) (F5 K w0 B1 B2 x ro d p r H') _ _ _ rfl rfl rfl hi h63 D0.out (fun W h => (L5.out W h).1) (fun W h => (L5.out W h).2.2.1) (fun W h => (L5.out W h).2.2.2.2.1) (C5.out _ bd.out) ?_
          intro a' w3 hf ha
          subst ha
          simp only [Act.put, List.setIfInBounds_toArray, List.set_cons_zero, List.set_cons_succ]
          have K3 := hidMk (F5.drew hf)
          clear hf C5 D0 bd b1
          have D3 : Hid (DL K B1 B2 x ro d p w3.drew) := by
            obtain ⟨s', pm, _⟩ := K3.out
            exact ⟨_, pm, rfl, rfl, rfl, rfl⟩
          go_upto_region 6 with fail
          refine dun6 (x := x) (d := d) (g := sb) (o := 0) (n := n) (c := sc) (i := i) (z := 0) (s := (lE : Int)) (DL K B1 B2 x ro d p) (F6 K w0 B1 B2 x ro d p r H' P g) _ w3 _ rfl rfl rfl hi h63 D3.out (fun W h => (L5.out W h).2.1) (fun W h => (L5.out W h).2.2.2.1) (fun W h => (L5.out W h).2.2.2.2.2) (C6.out _ K3.out) ?_
          intro a' w4 hf ha
          subst ha
          simp only [Act.put, List.setIfInBounds_toArray, List.set_cons_zero, List.set_cons_succ]
          obtain ⟨w5, e5, u5⟩ := C10.out w4 hf
          have L4 : Hid ((Instr.loadAt 31 (.pointer (some ⟨x, 0 + 3, none⟩))).run Tryz.prog w4 = .ok (.slice (some ⟨sb, 0, none⟩) n sc) w4) := by
            obtain ⟨s', pv2, pm, _⟩ := hf
            exact (pm.lds SVV.out).2
          have HE5 := hidMk e5
          have HU5 := hidMk u5
          clear hf C6 C10 K3 D3 e5 u5 L5
          go_upto_region 10 with fail
          refine dun10 (x := x) (g := sb) (o := 0) (n := n) (c := sc) (i := i) (w1 := w5) _ w4 _ rfl rfl rfl hi h63 (fun W e => by rw [e]; exact L4.out) HE5.out ?_
          intro a' w6 hf ha
          subst ha
          obtain rfl : w5 = w6 := hf.symm
          simp only [Act.put, List.setIfInBounds_toArray, List.set_cons_zero, List.set_cons_succ]
          clear HE5 L4
          go_wp2
          go_ret
          exact UZ.out _ _ HU5.out
structure IdB (W : World) (ib : Nat) (iv : Value) (I : List IdK) (W' : World) : Prop where
  b : W'.heap[ib]? = some (.cells #[iv] 64 (0, 0))
  o : RI.Own W' W.heap.size iv I
  bel : Below W.heap.size W W'
  sl : ∃ s : SlV, iv = s.v
theorem idl_store {W : World} {ib : Nat} {iv : Value} {s : SlV} (h : W.heap[ib]? = some (.cells #[iv] 64 (0, 0))) : ∃ W', (Instr.storeAt 64 (.pointer (some ⟨ib, 0, none⟩)) s.v).run Tryz.prog W = .ok () W' ∧ W'.heap[ib]? = some (.cells #[s.v] 64 (0, 0)) ∧ Tch (fun j => j = ib) W W' := by
  have c0 : W.cell? ⟨ib, 0, none⟩ = some iv := (cell_of_row W ib 0 _ _ _ h).trans rfl
  have f0 := frozen_of_row W ib 0 _ _ h
  refine ⟨W.setCell ⟨ib, 0, none⟩ (.slice s.a s.n s.c), ?_, ?_, ⟨rfl, rfl, rfl, by simp [World.setCell], fun j _ hj => Go.heap_setCell_other _ _ _ _ hj⟩⟩
  · unfold SlV.v
    go_simp
  · exact Go.heap_setCell_same W ib 0 _ 64 _ h
theorem idl_load {W : World} {ib : Nat} {s : SlV} (h : W.heap[ib]? = some (.cells #[s.v] 64 (0, 0))) : (Instr.loadAt 64 (.pointer (some ⟨ib, 0, none⟩))).run Tryz.prog W = .ok s.v W := by
  have c0 : W.cell? ⟨ib, 0, none⟩ = some (.slice s.a s.n s.c) := (cell_of_row W ib 0 _ _ _ h).trans rfl
  unfold SlV.v
  go_simp
theorem idl_new (W : World) : ∃ W', (Instr.alloc 64 true (.tuple #[])).run Tryz.prog W = .ok (.pointer (some ⟨W.heap.size, 0, none⟩)) W' ∧ IdB W W.heap.size (.slice none 0 0) [] W' :=
  ⟨W.alloc (.cells #[.slice none 0 0] 64), by kernel_rfl, heap_alloc_new _ _, RowT.own_nil RI _ _, (Below.refl _ _).alloc (Nat.le_refl _) _, ⟨none, 0, 0⟩, rfl⟩
variable {K : Nat → Option Obj}
theorem tells_st {W : World} {ib : Nat} {s : SlV} {I : List IdK} (hb : W.heap[ib]? = some (.cells #[s.v] 64 (0, 0))) {base : Nat} (ho : RI.Own W base s.v I) (ok : ∀ x ∈ I, x.ok) (hn : I.length ≤ 9000000000000) : Tells W 22 #[.pointer (some ⟨ib, 0, none⟩)] (fun k => decide (k ∈ I)) := by
  refine ⟨enters_of Tryz.func22 (by kernel_rfl) rfl, fun w bW k hk => ?_⟩
  obtain ⟨w1, E1, n1, b1⟩ := box_id w k
  have h2 := (bW.block ib (Array.getElem?_eq_some_iff.1 hb).1).trans hb
  have hb1 := (b1.block ib (Array.getElem?_eq_some_iff.1 h2).1).trans h2
  have o1 := (ho.below bW).below b1
  obtain ⟨a, c, es, hat, _⟩ := o1.open RI_is ok
  have CS := hidMk (saw_any ok hn (c := c) hat hk)
  rw [← es] at CS
  have H1 := hidMk E1
  have L1 := hidMk (idl_load hb1)
  have L2 := hidMk (load_id hk n1)
  have HB := hidMk b1
  clear E1 n1 b1 hb1 o1 es hat bW hb ho h2
  show Calls Tryz.prog 22 #[k.v, .pointer (some ⟨ib, 0, none⟩)] w _
  go_enter Tryz.func22, Tryz.ntmps22
  go_wp2_with (first
    | (refine wpList_run rfl (exec_boxE (t := 59) (v := k.v) (u := .pointer (some ⟨w.heap.size, 0, none⟩)) (w2 := w1) rfl rfl H1.out) ?_)
    | (refine wpList_val rfl (exec_load (t := 64) (v := s.v) rfl rfl L1.out) ?_)
    | (refine wpList_val rfl (exec_load (t := 59) (v := k.v) rfl rfl L2.out) ?_)
    | (go_at_call 23; refine CS.out.mono ?_; rintro e w2 ⟨rfl, b2⟩; have B2 := hidMk b2; clear b2 CS)
    | fail)
  go_ret
  exact ⟨rfl, HB.out.trans (B2.out.mono HB.out.size)⟩
theorem bs_id0 (w : World) : (Instr.buildSlice 64 0 #[]).run Tryz.prog w = .ok (.slice (some ⟨w.heap.size, 0, none⟩) 0 0) (w.alloc (.cells #[] 59)) := by kernel_rfl
theorem ids_copy (W : World) {sv : Value} {I : List IdK} (h : SeenL W sv I) (hn : I.length ≤ 3518437208883) :
    ∃ e0 w1 u w2 ib w3 w4, (Instr.buildSlice 64 0 #[]).run Tryz.prog W = .ok e0 w1 ∧ Below W.heap.size W w1 ∧ (Builtin.append_ #[64, 64] 64 #[e0, sv]).run Tryz.prog w1 = .ok u w2 ∧ (Instr.alloc 64 true (.tuple #[])).run Tryz.prog w2 = .ok (.pointer (some ⟨ib, 0, none⟩)) w3 ∧ (Instr.storeAt 64 (.pointer (some ⟨ib, 0, none⟩)) u).run Tryz.prog w3 = .ok () w4 ∧ Below W.heap.size W w4 ∧ Tells w4 22 #[.pointer (some ⟨ib, 0, none⟩)] (fun k => decide (k ∈ I)) := by
  obtain ⟨a, c, rfl, hat⟩ := h.at'
  have b0 : Below W.heap.size W (W.alloc (.cells #[] 59)) := (Below.refl _ _).alloc (Nat.le_refl _) _
  have o0 : RI.Own (W.alloc (.cells #[] 59)) W.heap.size (.slice (some ⟨W.heap.size, 0, none⟩) 0 0) [] := ⟨by simp [RowT.flat], .inr ⟨W.heap.size, 0, #[], rfl, Nat.le_refl _, heap_alloc_new _ _, Nat.le_refl _, by decide, by simp, by simp [RowT.flat]⟩⟩
  obtain ⟨u, w2, E1, o1, g1, _⟩ := RowT.run_app RI_is _ W.heap.size _ [] a I c o0 (hat.below b0) h.ok (by simp; unfold maxLen; omega) (by simp; show _ * 40 ≤ _; omega) b0.size
  have b2 : Below W.heap.size W w2 := b0.grown g1 b0.size (fun k hk => (o0.cells hk).1)
  rw [List.nil_append] at o1
  obtain ⟨oa, oc, rfl⟩ := o1.form
  obtain ⟨w3, E3, i3⟩ := idl_new w2
  obtain ⟨w4, E4, n4, t4⟩ := idl_store (s := ⟨oa, I.length, oc⟩) i3.b
  have b34 : Below w2.heap.size w2 w4 := i3.bel.trans (t4.below i3.bel.size (fun j e => by rw [e]; exact Nat.le_refl _))
  refine ⟨_, _, _, w2, w2.heap.size, w3, w4, bs_id0 W, b0, E1, E3, E4, b2.trans (b34.mono b2.size), tells_st n4 (s := ⟨oa, I.length, oc⟩) (o1.below b34) h.ok (by omega)⟩
section
variable {W W' : World}
theorem op_kc {b o : Nat} {x : OpR} (h : W.rangeAt b o x.c) : (Instr.loadAt 3 (.pointer (some ⟨b, o + 0, none⟩))).run Tryz.prog W = .ok (.int .i64 x.kind) W := by
  have hc : W.cell? ⟨b, o, none⟩ = some (.int .i64 x.kind) := h 0 _ rfl
  go_simp
theorem op_bc {b o : Nat} {x : OpR} (hx : x.id.ok) (h : W.rangeAt b o x.c) : (Instr.loadAt 3 (.pointer (some ⟨b, o + 41, none⟩))).run Tryz.prog W = .ok (.int .i64 x.back) W := by
  have hc : W.cell? ⟨b, o + 41, none⟩ = some (.int .i64 x.back) := h 41 _ (by
    rw [OpR.c, show 41 = (33 + 6) + 1 + 1 by rfl, List.getElem?_cons_succ, List.getElem?_cons_succ, List.getElem?_append_right (by rw [IdK.len hx]; omega), IdK.len hx, List.getElem?_append_right (by rw [VaV.len]; omega), VaV.len]
    rfl)
  go_simp
theorem op_sc {b o : Nat} {x : OpR} (hx : x.id.ok) (hs : ∃ a n c, x.seen = .slice a n c) (h : W.rangeAt b o x.c) : (Instr.loadAt 64 (.pointer (some ⟨b, o + 40, none⟩))).run Tryz.prog W = .ok x.seen W := by
  have hc : W.cell? ⟨b, o + 40, none⟩ = some x.seen := h 40 _ (by
    rw [OpR.c, show 40 = (33 + 5) + 1 + 1 by rfl, List.getElem?_cons_succ, List.getElem?_cons_succ, List.getElem?_append_right (by rw [IdK.len hx]; omega), IdK.len hx, List.getElem?_append_right (by rw [VaV.len]; omega), VaV.len]
    rfl)
  obtain ⟨a, n, c, e⟩ := hs
  rw [e] at hc ⊢
  go_simp
theorem box_op (w : World) (o : OpR) : ∃ w1, (Instr.box 66 o.a).run Tryz.prog w = .ok (.pointer (some ⟨w.heap.size, 0, none⟩)) w1 ∧ w1.heap[w.heap.size]? = some (.cells o.c.toArray 66 (0, 0)) ∧ Below w.heap.size w w1 := ⟨_, by rw [run_box]; rfl, heap_alloc_new _ _, (Below.refl _ _).alloc (Nat.le_refl _) _⟩
structure Loc (o : OpR) (q : PlK) (ob pb : Nat) (W : World) : Prop where
  o : W.heap[ob]? = some (.cells o.c.toArray 66 (0, 0))
  p : Np pb q W
variable {B1 B2 x ro d : Nat} {p : Pz} {o : OpR} {q : PlK} {ob pb : Nat}
theorem Loc.below (h : Loc o q ob pb W) (b : Below W.heap.size W W') : Loc o q ob pb W' := ⟨(b.block _ (Array.getElem?_eq_some_iff.1 h.o).1).trans h.o, h.p.below b⟩
theorem Loc.prog (h : Loc o q ob pb W) (m : PM K W B1 B2 x ro d p) (t : Tch p.s.all W W') : Loc o q ob pb W' :=
  ⟨(t.block _ (Array.getElem?_eq_some_iff.1 h.o).1 (m.ra.mem.other h.o (by decide) (by decide))).trans h.o, (t.block _ (Array.getElem?_eq_some_iff.1 h.p).1 (m.ra.mem.other h.p (by decide) (by decide))).trans h.p⟩
theorem PM.rfNot (h : PM K W B1 B2 x ro d p) {j : Nat} {c : Array Value} {ty : TypeId} {fr : Nat × Nat} (h1 : W.heap[j]? = some (.cells c ty fr)) (h2 : ty ≠ 95) (h3 : ty ≠ 174) (h4 : ty ≠ 92) : ¬ rfB d p.v p.pv p.D j := fun q => by
  obtain ⟨_, c, ty, hc, e⟩ := rf_typ h.rf q
  have := two_types h1 hc
  rw [this] at h2 h3 h4
  rcases e with e | e | e
  · exact h2 e
  · exact h3 e
  · exact h4 e
theorem Loc.doc (h : Loc o q ob pb W) (m : PM K W B1 B2 x ro d p) (t : Tch (fun j => rfB d p.v p.pv p.D j) W W') : Loc o q ob pb W' :=
  ⟨(t.block _ (Array.getElem?_eq_some_iff.1 h.o).1 (m.rfNot h.o (by decide) (by decide) (by decide))).trans h.o, (t.block _ (Array.getElem?_eq_some_iff.1 h.p).1 (m.rfNot h.p (by decide) (by decide) (by decide))).trans h.p⟩
theorem infoBk : (Tryz.prog.info? 80).map (fun i => (i.zero, i.size, i.bytes)) = some (some (.pointer none), 1, 8) := by kernel_rfl
theorem infoIn : (Tryz.prog.info? 3).map (fun i => (i.zero, i.size, i.bytes)) = some (some (.int .i64 0), 1, 8) := by kernel_rfl
theorem st_dn2 {a b c0 e0 : Value} {s : SlV} (h : W.heap[x]? = some (.cells #[a, b, c0, e0] 33 (0, 0))) (hc0 : ∃ s : SlV, c0 = s.v) : ∃ w', (Instr.storeAt 30 (.pointer (some ⟨x, 0 + 2, none⟩)) s.v).run Tryz.prog W = .ok () w' ∧ w'.heap[x]? = some (.cells #[a, b, s.v, e0] 33 (0, 0)) ∧ Tch (fun j => j = x) W w' := by
  obtain ⟨s0, rfl⟩ := hc0
  have c2 : W.cell? ⟨x, 2, none⟩ = some (.slice s0.a s0.n s0.c) := (cell_of_row W x 2 _ _ _ h).trans rfl
  have f2 := frozen_of_row W x 2 _ _ h
  refine ⟨W.setCell ⟨x, 2, none⟩ (.slice s.a s.n s.c), ?_, ?_, ⟨rfl, rfl, rfl, by simp [World.setCell], fun j _ hj => Go.heap_setCell_other _ _ _ _ hj⟩⟩
  · unfold SlV.v
    go_simp
  · obtain ⟨hl2, hv⟩ := Array.getElem?_eq_some_iff.1 h
    simp [World.setCell, hl2, Array.getElem_modify_self, hv, SlV.v]
theorem st_dn3 {a b c0 e0 : Value} {s : SlV} (h : W.heap[x]? = some (.cells #[a, b, c0, e0] 33 (0, 0))) (hc0 : ∃ s : SlV, e0 = s.v) : ∃ w', (Instr.storeAt 31 (.pointer (some ⟨x, 0 + 3, none⟩)) s.v).run Tryz.prog W = .ok () w' ∧ w'.heap[x]? = some (.cells #[a, b, c0, s.v] 33 (0, 0)) ∧ Tch (fun j => j = x) W w' := by
  obtain ⟨s0, rfl⟩ := hc0
  have c2 : W.cell? ⟨x, 3, none⟩ = some (.slice s0.a s0.n s0.c) := (cell_of_row W x 3 _ _ _ h).trans rfl
  have f2 := frozen_of_row W x 3 _ _ h
  refine ⟨W.setCell ⟨x, 3, none⟩ (.slice s.a s.n s.c), ?_, ?_, ⟨rfl, rfl, rfl, by simp [World.setCell], fun j _ hj => Go.heap_setCell_other _ _ _ _ hj⟩⟩
  · unfold SlV.v
    go_simp
  · obtain ⟨hl2, hv⟩ := Array.getElem?_eq_some_iff.1 h
    simp [World.setCell, hl2, Array.getElem_modify_self, hv, SlV.v]
theorem ownV_sl {w : World} {B e : Nat} {v : Value} {X : List Value} (h : OwnV w B e v X) : ∃ s : SlV, v = s.v := by
  obtain ⟨a, c, e, _⟩ := h.open
  exact ⟨⟨a, _, c⟩, e⟩
theorem PM.pushB (h : PM K W B1 B2 x ro d p) (hB : B2 ≤ W.heap.size) (hn : p.BL.length + 1 ≤ 2000000000000) {bk : Nat} (hb : IsBk W bk) :
    ∃ sv w1 bv2 w2 w3, (Instr.loadAt 30 (.pointer (some ⟨x, 0 + 2, none⟩))).run Tryz.prog W = .ok p.bv W ∧ (Instr.buildSlice 30 1 #[(0, .pointer (some ⟨bk, 0, none⟩))]).run Tryz.prog W = .ok sv w1 ∧ (Builtin.append_ #[30, 30] 30 #[p.bv, sv]).run Tryz.prog w1 = .ok bv2 w2 ∧ (Instr.storeAt 30 (.pointer (some ⟨x, 0 + 2, none⟩)) bv2).run Tryz.prog w2 = .ok () w3 ∧ PM K w3 B1 B2 x ro d { p with bv := bv2, BL := p.BL ++ [bk] } ∧ Tch (plB x p) W w3 := by
  obtain ⟨sv, w1, bv2, w2, E1, b1, E2, o2, t2, ob2⟩ := run_pushV 30 80 8 (.pointer none) Tryz.underlying30 infoBk (.inl rfl) rfl (bkV bk) rfl rfl h.backs hB (by rw [List.length_map]; exact hn)
  have ne : ∀ {j : Nat} {c : Array Value} {ty : TypeId} {fr : Nat × Nat}, W.heap[j]? = some (.cells c ty fr) → ty ≠ 80 → w2.heap[j]? = W.heap[j]? := fun h1 h2 => t2.block _ (Array.getElem?_eq_some_iff.1 h1).1 fun e => by
    obtain ⟨_, c, hc⟩ := h.backs.ge _ e
    exact h2 (two_types h1 hc)
  obtain ⟨s2, rfl⟩ := ownV_sl o2
  obtain ⟨s0, hs0⟩ := ownV_sl h.backs
  obtain ⟨w3, E3, n3, t3⟩ := st_dn2 (s := s2) ((ne h.cell (by decide)).trans h.cell) ⟨s0, hs0⟩
  have t' : Tch (plB x p) W w3 := (t2.mono fun j _ e => Or.inr (Or.inl e)).trans' t3 (fun j _ e => Or.inl e)
  have nx : ∀ {j : Nat} {c : Array Value} {ty : TypeId} {fr : Nat × Nat}, w2.heap[j]? = some (.cells c ty fr) → ty ≠ 33 → w3.heap[j]? = w2.heap[j]? := fun h1 h2 => t3.block _ (Array.getElem?_eq_some_iff.1 h1).1 fun e => by
    rw [e, ne h.cell (by decide)] at h1
    exact h2 (two_types h1 h.cell)
  refine ⟨sv, w1, s2.v, w2, w3, ?_, E1, E2, E3, h.lists (bv' := s2.v) (BL' := p.BL ++ [bk]) (sv' := p.sv) (SL' := p.SL) t' n3 ?_ ?_ ?_ (fun j hj => hj.elim (fun e => ob2.elim (fun q => .inl (.inr (.inl (q ▸ e)))) (fun q => .inr (q j e))) (fun e => .inl (.inr (.inr e)))), t'⟩
  · rw [hs0]
    exact (h.ldb (a := s0.a) (n := s0.n) (c := s0.c) hs0).2
  · rw [List.map_append]
    refine o2.keep fun j hj => ?_
    obtain ⟨_, c, hc⟩ := o2.ge j hj
    exact nx hc (by decide)
  · refine h.steps.keep fun j hj => ?_
    obtain ⟨_, c, hc⟩ := h.steps.ge j hj
    have e2 := ne hc (by decide)
    exact (nx (e2.trans hc) (by decide)).trans e2
  · intro b hb'
    rcases List.mem_append.1 hb' with q | q
    · exact h.bk b q
    · rw [List.mem_singleton.1 q]; exact hb
theorem PM.pushS (h : PM K W B1 B2 x ro d p) (hB : B2 ≤ W.heap.size) (hn : p.SL.length + 1 ≤ 2000000000000) (z : Int) :
    ∃ sv w1 iv2 w2 w3, (Instr.buildSlice 31 1 #[(0, .int .i64 z)]).run Tryz.prog W = .ok sv w1 ∧ (Builtin.append_ #[31, 31] 31 #[p.sv, sv]).run Tryz.prog w1 = .ok iv2 w2 ∧ (Instr.storeAt 31 (.pointer (some ⟨x, 0 + 3, none⟩)) iv2).run Tryz.prog w2 = .ok () w3 ∧ (w1.heap[x]? = W.heap[x]? ∧ w2.heap[x]? = W.heap[x]?) ∧ PM K w3 B1 B2 x ro d { p with sv := iv2, SL := p.SL ++ [z] } ∧ Tch (plB x p) W w3 := by
  obtain ⟨sv, w1, iv2, w2, E1, b1, E2, o2, t2, ob2⟩ := run_pushV 31 3 8 (.int .i64 0) Tryz.underlying31 infoIn (.inl rfl) rfl (inV z) rfl rfl h.steps hB (by rw [List.length_map]; exact hn)
  have ne : ∀ {j : Nat} {c : Array Value} {ty : TypeId} {fr : Nat × Nat}, W.heap[j]? = some (.cells c ty fr) → ty ≠ 3 → w2.heap[j]? = W.heap[j]? := fun h1 h2 => t2.block _ (Array.getElem?_eq_some_iff.1 h1).1 fun e => by
    obtain ⟨_, c, hc⟩ := h.steps.ge _ e
    exact h2 (two_types h1 hc)
  obtain ⟨s2, rfl⟩ := ownV_sl o2
  obtain ⟨w3, E3, n3, t3⟩ := st_dn3 (s := s2) ((ne h.cell (by decide)).trans h.cell) (ownV_sl h.steps)
  have t' : Tch (plB x p) W w3 := (t2.mono fun j _ e => Or.inr (Or.inr e)).trans' t3 (fun j _ e => Or.inl e)
  have nx : ∀ {j : Nat} {c : Array Value} {ty : TypeId} {fr : Nat × Nat}, w2.heap[j]? = some (.cells c ty fr) → ty ≠ 33 → w3.heap[j]? = w2.heap[j]? := fun h1 h2 => t3.block _ (Array.getElem?_eq_some_iff.1 h1).1 fun e => by
    rw [e, ne h.cell (by decide)] at h1
    exact h2 (two_types h1 h.cell)
  refine ⟨sv, w1, s2.v, w2, w3, E1, E2, E3, ⟨b1.block _ (Array.getElem?_eq_some_iff.1 h.cell).1, ne h.cell (by decide)⟩, h.lists (bv' := p.bv) (BL' := p.BL) (sv' := s2.v) (SL' := p.SL ++ [z]) t' n3 ?_ ?_ h.bk (fun j hj => hj.elim (fun e => .inl (.inr (.inl e))) (fun e => ob2.elim (fun q => .inl (.inr (.inr (q ▸ e)))) (fun q => .inr (q j e)))), t'⟩
  · refine h.backs.keep fun j hj => ?_
    obtain ⟨_, c, hc⟩ := h.backs.ge j hj
    have e2 := ne hc (by decide)
    exact (nx (e2.trans hc) (by decide)).trans e2
  · rw [List.map_append]
    refine o2.keep fun j hj => ?_
    obtain ⟨_, c, hc⟩ := o2.ge j hj
    exact nx hc (by decide)
end
variable {K : Nat → Option Obj}
theorem Hist.lt {w : World} : ∀ {H : List Rec}, Hist w H → ∀ z ∈ H, z.bk < w.heap.size
  | [], _, z, hz => by cases hz
  | r :: H, h, z, hz => by
    rcases List.mem_cons.1 hz with rfl | hz
    · exact (Array.getElem?_eq_some_iff.1 h.1.b).1
    · exact Hist.lt h.2 z hz
theorem IsBk.lt {w : World} {b : Nat} (h : IsBk w b) : b < w.heap.size := by
  obtain ⟨c, hc⟩ := h
  exact (Array.getElem?_eq_some_iff.1 hc).1
structure GK (p : Pz) (q : PlK) (L : List EnV) (bk : Nat) (rc : Rec) (s' : Rs) : Prop where
  rk : rc.bk = bk
  li : ∀ z, liOf s'.P z = if z = q then L else liOf p.s.P z
  rp : rc.p = q
  rb : rc.bef = liOf p.s.P q
  f1 : ∀ z ∈ p.H, z.bk ≠ bk
  f2 : ∀ b ∈ p.BL, b ≠ bk
structure GD (p : Pz) (q : PlK) (L : List EnV) (X' : Sls) (g : SlV × Sls) : Prop where
  eg : ∀ z, entF g.2 z = entF p.X z
  lg : List.length g.2 = p.X.length
  eX : ∀ z, entF X' z = if z = q then L else entF p.X z
  lX : X'.length ≤ p.X.length + 1
structure GB (w0 : World) (B1 B2 bk : Nat) (W : World) : Prop where
  ib : IsBk W bk
  b : Below w0.heap.size w0 W
  h1 : B1 ≤ W.heap.size
  h2 : B2 ≤ W.heap.size
def G1 (K : Nat → Option Obj) (w0 : World) (B1 B2 x ro d : Nat) (p : Pz) (o : OpR) (q : PlK) (ob pb : Nat) (L : List EnV) (bk : Nat) (W : World) : Prop := ∃ rc s', GK p q L bk rc s' ∧ PM K W B1 B2 x ro d { p with s := s', H := rc :: p.H } ∧ Loc o q ob pb W ∧ GB w0 B1 B2 bk W
def G2 (K : Nat → Option Obj) (w0 : World) (B1 B2 x ro d : Nat) (p : Pz) (q : PlK) (L : List EnV) (bk : Nat) (W : World) : Prop := ∃ rc s' X' v' pv' g, GK p q L bk rc s' ∧ GD p q L X' g ∧ PM K W B1 B2 x ro d ⟨s', rc :: p.H, X', v', pv', p.D ++ [g], p.bv, p.BL, p.sv, p.SL⟩ ∧ GB w0 B1 B2 bk W
def G3 (K : Nat → Option Obj) (w0 : World) (B1 B2 x ro d : Nat) (p : Pz) (q : PlK) (L : List EnV) (bk : Nat) (bv2 : Value) (W : World) : Prop := ∃ rc s' X' v' pv' g, GK p q L bk rc s' ∧ GD p q L X' g ∧ PM K W B1 B2 x ro d ⟨s', rc :: p.H, X', v', pv', p.D ++ [g], bv2, p.BL ++ [bk], p.sv, p.SL⟩ ∧ GB w0 B1 B2 bk W
def SS (K : Nat → Option Obj) (B1 B2 x ro d : Nat) (o : OpR) (q : PlK) (ob pb : Nat) (W : World) : Prop := ∃ p, PM K W B1 B2 x ro d p ∧ Loc o q ob pb W
section
variable {w0 W W' : World} {B1 B2 x ro d m : Nat} {p : Pz} {o : OpR} {q : PlK} {ob pb : Nat} {L : List EnV} {bk : Nat}
theorem SS.drew (h : SS K B1 B2 x ro d o q ob pb W) : SS K B1 B2 x ro d o q ob pb W.drew := by
  obtain ⟨p, h1, h2⟩ := h
  exact ⟨p, h1.below (Below.refl _ _).drew, h2.below (Below.refl _ _).drew⟩
theorem GB.drew (h : GB w0 B1 B2 bk W) : GB w0 B1 B2 bk W.drew := by
  obtain ⟨c, hc⟩ := h.ib
  exact ⟨⟨c, hc⟩, h.b.drew, h.h1, h.h2⟩
theorem G1.drew (h : G1 K w0 B1 B2 x ro d p o q ob pb L bk W) : G1 K w0 B1 B2 x ro d p o q ob pb L bk W.drew := by
  obtain ⟨rc, s', k, pm, lc, gb⟩ := h
  exact ⟨rc, s', k, pm.below (Below.refl _ _).drew, lc.below (Below.refl _ _).drew, gb.drew⟩
theorem G3.drew {bv2 : Value} (h : G3 K w0 B1 B2 x ro d p q L bk bv2 W) : G3 K w0 B1 B2 x ro d p q L bk bv2 W.drew := by
  obtain ⟨rc, s', X', v', pv', g, k, gd, pm, gb⟩ := h
  exact ⟨rc, s', X', v', pv', g, k, gd, pm.below (Below.refl _ _).drew, gb.drew⟩
theorem op_prog (h : PY K w0 B1 B2 x ro d m p W) (lc : Loc o q ob pb W) {e : Ending} (hop : OpE W B1 p.s p.H q L e W') : ∃ bk, e = .returned (.pointer (some ⟨bk, 0, none⟩)) ∧ SS K B1 B2 x ro d o q ob pb W' ∧ G1 K w0 B1 B2 x ro d p o q ob pb L bk W' := by
  obtain ⟨rc, s', rfl, hn⟩ := hop
  have pm' := h.pm.prog hn.at' hn.r hn.al hn.tch
  have lc' := lc.prog h.pm hn.tch
  refine ⟨rc.bk, rfl, ⟨_, pm', lc'⟩, rc, s', ⟨rfl, hn.li, hn.rp, hn.rb, fun z hz e => ?_, fun b hb e => ?_⟩, pm', lc', ⟨⟨_, hn.at'.hist.1.b⟩, h.pm.progB hn.tch h.bel h.l1, Nat.le_trans h.h1 hn.tch.size, Nat.le_trans h.h2 hn.tch.size⟩⟩
  · have := h.pm.ra.hist.lt z hz
    have := hn.new
    omega
  · have := (h.pm.bk b hb).lt
    have := hn.new
    omega
theorem op_doc (l2 : w0.heap.size ≤ B2) (h : G1 K w0 B1 B2 x ro d p o q ob pb L bk W) (hr : RfO B2 W d p.X p.v p.pv p.D q L W') : SS K B1 B2 x ro d o q ob pb W' ∧ G2 K w0 B1 B2 x ro d p q L bk W' := by
  obtain ⟨rc, s', k, pm, lc, gb⟩ := h
  obtain ⟨X', v', pv', g, rf', eg, lg, eX, lX, t, dE, rB⟩ := hr
  have pm' := pm.doc rf' t dE rB
  have lc' := lc.doc pm t
  refine ⟨⟨_, pm', lc'⟩, rc, s', X', v', pv', g, k, ⟨eg, lg, eX, lX⟩, pm', ⟨?_, pm.docB t gb.b l2, Nat.le_trans gb.h1 t.size, Nat.le_trans gb.h2 t.size⟩⟩
  obtain ⟨c, hc⟩ := gb.ib
  exact ⟨c, (t.block _ (Array.getElem?_eq_some_iff.1 hc).1 (pm.rfNot hc (by decide) (by decide) (by decide))).trans hc⟩
theorem PM.plNot (h : PM K W B1 B2 x ro d p) {j : Nat} {c : Array Value} {ty : TypeId} {fr : Nat × Nat} (h1 : W.heap[j]? = some (.cells c ty fr)) (h2 : ty ≠ 33) (h3 : ty ≠ 80) (h4 : ty ≠ 3) : ¬ plB x p j := fun q => by
  obtain ⟨_, c, ty, hc, e⟩ := pl_typ h q
  have := two_types h1 hc
  rw [this] at h2 h3 h4
  rcases e with e | e | e
  · exact h2 e
  · exact h3 e
  · exact h4 e
theorem tail18 (l2 : w0.heap.size ≤ B2) (hn : p.BL.length + 1 ≤ 2000000000000) (h : G2 K w0 B1 B2 x ro d p q L bk W) :
    ∃ sv w1 bv2 w2 w3, (Instr.loadAt 30 (.pointer (some ⟨x, 0 + 2, none⟩))).run Tryz.prog W = .ok p.bv W ∧ (Instr.buildSlice 30 1 #[(0, .pointer (some ⟨bk, 0, none⟩))]).run Tryz.prog W = .ok sv w1 ∧ (Builtin.append_ #[30, 30] 30 #[p.bv, sv]).run Tryz.prog w1 = .ok bv2 w2 ∧ (Instr.storeAt 30 (.pointer (some ⟨x, 0 + 2, none⟩)) bv2).run Tryz.prog w2 = .ok () w3 ∧ G3 K w0 B1 B2 x ro d p q L bk bv2 w3 := by
  obtain ⟨rc, s', X', v', pv', g, k, gd, pm, gb⟩ := h
  obtain ⟨sv, w1, bv2, w2, w3, e0, e1, e2, e3, pm', t⟩ := pm.pushB gb.h2 hn gb.ib
  refine ⟨sv, w1, bv2, w2, w3, e0, e1, e2, e3, rc, s', X', v', pv', g, k, gd, pm', ⟨?_, pm.listsB t gb.b l2, Nat.le_trans gb.h1 t.size, Nat.le_trans gb.h2 t.size⟩⟩
  obtain ⟨c, hc⟩ := gb.ib
  exact ⟨c, (t.block _ (Array.getElem?_eq_some_iff.1 hc).1 (pm.plNot hc (by decide) (by decide) (by decide))).trans hc⟩
def XC (x ro d : Nat) (bv sv : Value) (W : World) : Prop := W.heap[x]? = some (.cells #[.pointer (some ⟨ro, 0, none⟩), .pointer (some ⟨d, 0, none⟩), bv, sv] 33 (0, 0))
theorem tail19 (l1 : w0.heap.size ≤ B1) (l2 : w0.heap.size ≤ B2) (h0 : Link p) (mb : p.BL.length ≤ m) (md : p.D.length ≤ m) (mx : ∀ Y, (Y = p.X ∨ ∃ h ∈ p.D, Y = h.2) → Y.length ≤ m ∧ ∀ q, (entF Y q).length ≤ m) (hm : m + 1 ≤ 1100000000000) (hL : L.length ≤ m + 1) {bv2 : Value} (h : G3 K w0 B1 B2 x ro d p q L bk bv2 W) :
    ∃ sv w1 iv2 w2 w3, XC x ro d bv2 p.sv W ∧ (∃ s : SlV, p.sv = s.v) ∧ (Calls Tryz.prog 28 #[.pointer (some ⟨d, 0, none⟩)] W fun e w' => e = .returned (.int .i64 ((p.D.length + 1 : Nat) : Int)) ∧ w' = W) ∧ (Instr.buildSlice 31 1 #[(0, .int .i64 ((p.D.length + 1 : Nat) : Int))]).run Tryz.prog W = .ok sv w1 ∧ XC x ro d bv2 p.sv w1 ∧ (Builtin.append_ #[31, 31] 31 #[p.sv, sv]).run Tryz.prog w1 = .ok iv2 w2 ∧ XC x ro d bv2 p.sv w2 ∧ (Instr.storeAt 31 (.pointer (some ⟨x, 0 + 3, none⟩)) iv2).run Tryz.prog w2 = .ok () w3 ∧ ∃ p', PY K w0 B1 B2 x ro d (m + 1) p' w3 := by
  obtain ⟨rc, s', X', v', pv', g, k, gd, pm, gb⟩ := h
  obtain ⟨sv, w1, iv2, w2, w3, e1, e2, e3, ex, pm', t⟩ := pm.pushS gb.h2 (by have := h0.len; simp only; omega) ((p.D.length + 1 : Nat) : Int)
  have cs := rf_steps pm.rf
  simp only [List.length_append, List.length_singleton] at cs
  have lk := h0.done (s' := s') k.rp k.rb k.li gd.eg gd.eX (fun z hz e => k.f1 z hz (e.trans k.rk)) (fun b hb e => k.f2 b hb (e.trans k.rk)) v' pv' bv2 iv2
  rw [k.rk] at lk
  refine ⟨sv, w1, iv2, w2, w3, pm.cell, ownV_sl pm.steps, cs, e1, ex.1.trans pm.cell, e2, ex.2.trans pm.cell, e3, _, pm', lk, ?_, ?_, fun Y hY => ?_, pm.listsB t gb.b l2, l1, l2, Nat.le_trans gb.h1 t.size, Nat.le_trans gb.h2 t.size⟩
  · simp only [List.length_append, List.length_singleton]; omega
  · simp only [List.length_append, List.length_singleton]; omega
  · have hx := mx p.X (.inl rfl)
    rcases hY with rfl | ⟨z, hz, rfl⟩
    · refine ⟨by have := gd.lX; omega, fun z => ?_⟩
      rw [gd.eX]
      by_cases e : z = q
      · rw [if_pos e]; exact hL
      · rw [if_neg e]; have := hx.2 z; omega
    · rcases List.mem_append.1 hz with hz | hz
      · have := mx z.2 (.inr ⟨z, hz, rfl⟩)
        exact ⟨by omega, fun y => by have := this.2 y; omega⟩
      · rw [List.mem_singleton.1 hz]
        refine ⟨by have := gd.lg; omega, fun y => ?_⟩
        rw [gd.eg]
        have := hx.2 y
        omega
theorem xc_d {bv sv : Value} (h : XC x ro d bv sv W) : (Instr.loadAt 28 (.pointer (some ⟨x, 0 + 1, none⟩))).run Tryz.prog W = .ok (.pointer (some ⟨d, 0, none⟩)) W := by
  have hc : W.cell? ⟨x, 1, none⟩ = some (.pointer (some ⟨d, 0, none⟩)) := (cell_of_row W x 1 _ _ _ h).trans rfl
  go_simp
theorem xc_s {bv sv : Value} (hs : ∃ s : SlV, sv = s.v) (h : XC x ro d bv sv W) : (Instr.loadAt 31 (.pointer (some ⟨x, 0 + 3, none⟩))).run Tryz.prog W = .ok sv W := by
  obtain ⟨s, rfl⟩ := hs
  have hc : W.cell? ⟨x, 3, none⟩ = some (.slice s.a s.n s.c) := (cell_of_row W x 3 _ _ _ h).trans rfl
  unfold SlV.v
  go_simp
end
end Go.Proofs.YtldlljobofnmmaaGreatDoor
