import Derived.Test.YtoofljkgdjjllaaP5
import Derived.Test.YtoofljkgdjjllaaP0
import Derived.Test.YtoofljkgdjjllaaP1
set_option maxRecDepth 100000
set_option maxHeartbeats 4000000
namespace Go.Proofs.Ytoofljkgdjjllaa
open Go.RowKit
set_option linter.unusedVariables false
set_option linter.unusedSimpArgs false
set_option linter.unusedSectionVars false
def UPost (B x t d m : Nat) (p : Pl) (g : Nat → Nat) (w : World) (z : Int) (e : Ending) (w' : World) : Prop := e = .returned (.bool true) ∧ ∃ g' p', Ext w g g' ∧ Tch (Mut g) w w' ∧ PX B x t d m p' g' w' ∧ (z = -1 → p'.H.length = p.H.length - 1)
theorem UPost.same {B x t d m : Nat} {p : Pl} {g : Nat → Nat} {w w' : World} {z : Int} (h : PX B x t d m p g w) (b : Below w.heap.size w w') (hz : z = -1 → p.H = []) : UPost B x t d m p g w z (.returned (.bool true)) w' :=
  ⟨rfl, g, p, Ext.refl _ _, tch_below b, h.below b, fun e => by rw [hz e]; rfl⟩
theorem Tch.dr {O : Nat → Prop} {w w' : World} (h : Tch O w.drew w') : Tch O w w' := ((Tch.refl O w).drew).trans h
section
variable {B x t d m : Nat} {p : Pl} {g : Nat → Nat} {w : World}
theorem ps_rundo {q : Pl} (h : PS B g w q) (hB : B ≤ w.heap.size) {P : List (List RN)} {L : List RN} (hd : q.d = d) (hP : q.PL = P ++ [L]) (hn : P.length ≤ 1300000000000) :
    Calls Try.prog 72 #[.pointer (some ⟨d, 0, none⟩), .int .i64 ((q.PL.length : Nat) : Int)] w fun e w' => e = .returned (.int .i64 0) ∧ ∃ g' u vp' us0, Ext w g g' ∧ Tch (Mut g) w w' ∧ PS B g' w' { q with NL := L, PL := P, vn := u, vp := vp', us := us0 } := by
  have hr := h.ref
  rw [hP] at hr
  rw [← hd]
  have hl : q.PL.length = P.length + 1 := by rw [hP]; simp
  rw [hl]
  refine (rundo_ok hr hn).mono ?_
  rintro e w' ⟨rfl, u, vp', us0, hus, hr', t, hvp⟩
  obtain ⟨g', x1, x2, x3⟩ := h.refd hB hr' (t.mono fun j _ e => Or.inl e) (fun j hj => by
    rcases hj with q1 | q1 | q1 | ⟨i, v, hv, q1⟩
    · exact Or.inl (Or.inl q1)
    · exact Or.inl (Or.inr (Or.inr (Or.inr ⟨us0.length, u, by rw [hus]; simp, q1⟩)))
    · exact Or.inl (Or.inr (Or.inr (Or.inl (by rw [← hvp]; exact q1))))
    · exact Or.inl (Or.inr (Or.inr (Or.inr ⟨i, v, by rw [hus, List.getElem?_append_left (List.getElem?_eq_some_iff.1 hv).1]; exact hv, q1⟩))))
  exact ⟨rfl, g', u, vp', us0, x1, x2, x3⟩
end
theorem undo_out {B x t d m : Nat} {p : Pl} {g : Nat → Nat} {w : World} (h : PX B x t d m p g w) (hB : B ≤ w.heap.size) (hm : m ≤ 1300000000000) {z : Int} (hz1 : z ≠ -1) (hz : z < 0 ∨ (p.BL.length : Int) ≤ z) : Calls Try.prog 27 #[.pointer (some ⟨x, 0, none⟩), .int .i64 z] w (UPost B x t d m p g w z) := by
  obtain ⟨a, c, ebv, hle, _, _⟩ := h.ps.backs.open
  rw [List.length_map] at ebv hle
  obtain ⟨n, hnn⟩ : ∃ n, p.BL.length = n := ⟨_, rfl⟩
  have HN := hidMk hnn
  have hnb : n ≤ 1300000000000 := by have := h.mb; omega
  rw [hnn] at ebv
  have HBV := hidMk ebv
  clear ebv hle hnn hm hB
  have b1 : Below w.heap.size w w := Below.refl _ _
  have h1 := h
  have hz2 : z < 0 ∨ (n : Int) ≤ z := by have := HN.out; omega
  have HZ1 := hidMk hz1
  clear hz
  go_enter Try.func27, Try.ntmps27
  by_cases hneg : z < 0
  · clear hz2
    have c0 : w.cell? ⟨x, 0, none⟩ = some (.pointer (some ⟨t, 0, none⟩)) := by rw [← h1.t, ← h1.x]; exact cell_p0 h1.ps.cell
    have c2 : w.cell? ⟨x, 2, none⟩ = some (.slice a n c) := by rw [← HBV.out, ← h1.x]; exact cell_p2 h1.ps.cell
    have HU := hidMk (undo_none p.s p.H w h1.ps.own.tree)
    rw [h1.t] at HU
    go_wp2_with (first
      | (go_at_call 18; refine HU.out.mono ?_; rintro e w2 ⟨rfl, b2⟩; clear HU)
      | fail)
    go_ret
    exact UPost.same h (b1.trans (b2.mono b1.size)) (fun e => absurd e HZ1.out)
  · have hge : (n : Int) ≤ z := by omega
    clear hz2
    have c0 : w.cell? ⟨x, 0, none⟩ = some (.pointer (some ⟨t, 0, none⟩)) := by rw [← h1.t, ← h1.x]; exact cell_p0 h1.ps.cell
    have c2 : w.cell? ⟨x, 2, none⟩ = some (.slice a n c) := by rw [← HBV.out, ← h1.x]; exact cell_p2 h1.ps.cell
    have HU := hidMk (undo_none p.s p.H w h1.ps.own.tree)
    rw [h1.t] at HU
    go_wp2_with (first
      | (go_at_call 18; refine HU.out.mono ?_; rintro e w2 ⟨rfl, b2⟩; clear HU)
      | fail)
    go_ret
    exact UPost.same h (b1.trans (b2.mono b1.size)) (fun e => absurd e HZ1.out)
theorem undo_last_none {B x t d m : Nat} {p : Pl} {g : Nat → Nat} {w : World} (h : PX B x t d m p g w) (hB : B ≤ w.heap.size) (hm : m ≤ 1300000000000) (hH : p.H = []) : Calls Try.prog 27 #[.pointer (some ⟨x, 0, none⟩), .int .i64 (-1)] w (UPost B x t d m p g w (-1)) := by
  have HL := hidMk (last_any h hm)
  obtain ⟨a, c, ebv, hle, _, _⟩ := h.ps.backs.open
  rw [List.length_map] at ebv hle
  obtain ⟨n, hnn⟩ : ∃ n, p.BL.length = n := ⟨_, rfl⟩
  have HN := hidMk hnn
  have hnb : n ≤ 1300000000000 := by have := h.mb; omega
  rw [hnn] at ebv
  have HBV := hidMk ebv
  clear ebv hle hnn hm hB
  have HH := hidMk hH
  clear hH
  go_enter Try.func27, Try.ntmps27
  go_upto_region 3 with (first
    | (go_at_call 26; refine HL.out.mono ?_; rintro e w1 ⟨z, rfl, hz, b1⟩)
    | fail)
  have h1 := h.below b1
  rcases hz with ⟨rfl, _⟩ | ⟨i, rfl, _, hi, hpos⟩
  · clear HL
    have c0 : w1.cell? ⟨x, 0, none⟩ = some (.pointer (some ⟨t, 0, none⟩)) := by rw [← h1.t, ← h1.x]; exact cell_p0 h1.ps.cell
    have c2 : w1.cell? ⟨x, 2, none⟩ = some (.slice a n c) := by rw [← HBV.out, ← h1.x]; exact cell_p2 h1.ps.cell
    have HU := hidMk (undo_none p.s p.H w1 h1.ps.own.tree)
    rw [h1.t] at HU
    go_wp2_with (first
      | (go_at_call 18; refine HU.out.mono ?_; rintro e w2 ⟨rfl, b2⟩; clear HU)
      | fail)
    go_ret
    exact UPost.same h (b1.trans (b2.mono b1.size)) (fun _ => HH.out)
  · have := h.ln.len2
    rw [HH.out] at this
    simp at this
    omega
theorem undo_miss {B x t d m : Nat} {p : Pl} {g : Nat → Nat} {w : World} (h : PX B x t d m p g w) (hB : B ≤ w.heap.size) (hm : m ≤ 1300000000000) {i : Nat} (hi : i < p.BL.length) {b : Option Nat} {z : Int} (hb : p.BL[i]? = some b) (hz : p.SL[i]? = some z) (H1 : ∀ W, Below w.heap.size w W → Calls Try.prog 18 #[.pointer (some ⟨t, 0, none⟩), bkV b] W fun e w' => e = .returned (.int .i64 2) ∧ Below W.heap.size W w') (H2 : z < 1 ∨ z ≠ (p.PL.length : Int)) : Calls Try.prog 27 #[.pointer (some ⟨x, 0, none⟩), .int .i64 (i : Int)] w (UPost B x t d m p g w (i : Int)) := by
  have hmb := h.mb
  have hln := h.ln.len
  obtain ⟨bb, c, ebv⟩ := h.ps.backs.form (i := i) (by rw [List.length_map]; exact hi)
  obtain ⟨sb, sc, esv⟩ := h.ps.steps.form (i := i) (by rw [List.length_map]; omega)
  rw [List.length_map] at ebv esv
  obtain ⟨n, hnn⟩ : ∃ n, p.BL.length = n := ⟨_, rfl⟩
  have HN := hidMk hnn
  have hnb : n ≤ 1300000000000 := by omega
  have hin : i < n := by omega
  have hns : p.SL.length = n := by omega
  rw [hnn] at ebv
  rw [hns] at esv
  have HBV := hidMk ebv
  have HSV := hidMk esv
  have HC0 := hidMk (fun (W : World) (b : Below w.heap.size w W) => show W.cell? ⟨x, 0, none⟩ = some (.pointer (some ⟨t, 0, none⟩)) by rw [← h.t, ← h.x]; exact cell_p0 (h.ps.below b).cell)
  have HC1 := hidMk (fun (W : World) (b : Below w.heap.size w W) => show W.cell? ⟨x, 1, none⟩ = some (.pointer (some ⟨d, 0, none⟩)) by rw [← h.d, ← h.x]; exact cell_p1 (h.ps.below b).cell)
  have HC2 := hidMk (fun (W : World) (b : Below w.heap.size w W) => show W.cell? ⟨x, 2, none⟩ = some (.slice (some ⟨bb, 0, none⟩) n c) by rw [← ebv, ← h.x]; exact cell_p2 (h.ps.below b).cell)
  have HC3 := hidMk (fun (W : World) (b : Below w.heap.size w W) => show W.cell? ⟨x, 3, none⟩ = some (.slice (some ⟨sb, 0, none⟩) n sc) by rw [← esv, ← h.x]; exact cell_p3 (h.ps.below b).cell)
  have HCB := hidMk (fun (W : World) (bl : Below w.heap.size w W) => show W.cell? ⟨bb, i, none⟩ = some (bkV b) from (h.ps.below bl).backs.hit ebv (by rw [List.getElem?_map, hb]; rfl))
  have HCS := hidMk (fun (W : World) (bl : Below w.heap.size w W) => show W.cell? ⟨sb, i, none⟩ = some (.int .i64 z) from (h.ps.below bl).steps.hit esv (by rw [List.getElem?_map, hz]; rfl))
  have HU := hidMk H1
  have HR := hidMk (fun (W : World) (bl : Below w.heap.size w W) => rundo_no (h.ps.below bl).ref z H2)
  rw [h.d] at HR
  clear H1 H2 hb hz ebv esv hnn hns hln hmb hi hm hB
  have h1 := h
  have b1 : Below w.heap.size w w := Below.refl _ _
  have c2 : w.cell? ⟨x, 2, none⟩ = some (.slice (some ⟨bb, 0, none⟩) n c) := by rw [← HBV.out, ← h1.x]; exact cell_p2 h1.ps.cell
  go_enter Try.func27, Try.ntmps27
  go_upto_region 5 with fail
  clear c2
  have bd : Below w.heap.size w w.drew := (Below.refl _ _).drew
  refine undo5 (fun W => Below w.heap.size w W) (fun v W => v = .int .i64 2 ∧ Below w.heap.size w W) x bb i (.pointer (some ⟨t, 0, none⟩)) (.slice (some ⟨bb, 0, none⟩) n c) (.int .i64 (i : Int)) (bkV b) _ w _ rfl rfl rfl bd ?_ ?_ ?_ ?_ ?_ ?_
  · refine (HU.out _ bd).mono ?_
    rintro e w2 ⟨rfl, b2⟩
    exact ⟨_, rfl, bd.trans (b2.mono bd.size), rfl, bd.trans (b2.mono bd.size)⟩
  · exact fun W hW => load_tp (HC0.out W hW)
  · exact fun W hW => load_bs (HC2.out W hW)
  · exact fun W => ix_bk hin (by omega) W
  · exact fun W hW => load_bk (HCB.out W hW)
  rintro v a' w2 ⟨rfl, b2⟩ ha
  subst ha
  simp only [Act.put, List.setIfInBounds_toArray, List.set_cons_zero, List.set_cons_succ]
  go_upto_region 6 with fail
  have bd2 : Below w.heap.size w w2.drew := b2.drew
  refine undo6 (fun W => Below w.heap.size w W) (fun v W => v = .int .i64 2 ∧ Below w.heap.size w W) x sb i (.pointer (some ⟨d, 0, none⟩)) (.slice (some ⟨sb, 0, none⟩) n sc) (.int .i64 (i : Int)) (.int .i64 z) _ w2 _ rfl rfl rfl bd2 ?_ ?_ ?_ ?_ ?_ ?_
  · refine (HR.out _ bd2).mono ?_
    rintro e w3 ⟨rfl, b3⟩
    exact ⟨_, rfl, bd2.trans (b3.mono bd2.size), rfl, bd2.trans (b3.mono bd2.size)⟩
  · exact fun W hW => load_dp (HC1.out W hW)
  · exact fun W hW => load_is (HC3.out W hW)
  · exact fun W => ix_in hin (by omega) W
  · exact fun W hW => load_in (HCS.out W hW)
  rintro v a' w3 ⟨rfl, b3⟩ ha
  subst ha
  simp only [Act.put, List.setIfInBounds_toArray, List.set_cons_zero, List.set_cons_succ]
  go_wp2
  go_ret
  exact UPost.same h b3 (fun e => by omega)
section
variable {B x t d m : Nat} {p : Pl} {g : Nat → Nat} {w : World}
theorem hit_one (h : PX B x t d m p g w) (hB : B ≤ w.heap.size) {i : Nat} {r : Rec} {H' : List Rec} {P : List (List RN)} {L : List RN} (hH : p.H = r :: H') (hP : p.PL = P ++ [L]) (hz : p.SL[i]? = some ((p.PL.length : Nat) : Int)) :
    Calls Try.prog 18 #[.pointer (some ⟨t, 0, none⟩), bkV (some r.bk)] w fun e w' => e = .returned (.int .i64 0) ∧ ∃ g' s', s'.t = t ∧ Ext w g g' ∧ Tch (Mut g) w w' ∧ PS B g' w' { p with s := s', H := H', f := upd p.f r.k r.o } := by
  have ho := h.ps.own
  rw [hH] at ho
  obtain ⟨_, hF, _⟩ := h.ln.undone hH hP hz p.s p.vn p.vp p.us p.sv
  have := undo_all ho hB hF
  rw [h.t] at this
  refine this.mono ?_
  intro e w' hu
  obtain ⟨e1, g', s', e2, e3, e4, e5⟩ := h.ps.undone hB hH hu
  exact ⟨e1, g', s', by rw [e2, h.t], e3, e4, e5⟩
theorem hit_fin (h : PX B x t d m p g w) {i : Nat} {r : Rec} {H' : List Rec} {P : List (List RN)} {L : List RN} (hH : p.H = r :: H') (hP : p.PL = P ++ [L]) (hz : p.SL[i]? = some ((p.PL.length : Nat) : Int)) {s' : Tr} (ht : s'.t = t) {vn vp : Value} {us : List Value} {g' : Nat → Nat} {w' : World}
    (ps : PS B g' w' { p with s := s', H := H', f := upd p.f r.k r.o, NL := L, PL := P, vn := vn, vp := vp, us := us, SL := p.SL.set i 0 }) : PX B x t d m { p with s := s', H := H', f := upd p.f r.k r.o, NL := L, PL := P, vn := vn, vp := vp, us := us, SL := p.SL.set i 0 } g' w' := by
  have hl : p.PL.length = P.length + 1 := by rw [hP]; simp
  have hmp := h.mp
  exact ⟨h.x, ht, h.d, ps, (h.ln.undone hH hP hz s' vn vp us p.sv).1, h.mb, h.mq L (by rw [hP]; simp), by show P.length ≤ m; omega, fun Q hQ => h.mq Q (by rw [hP]; simp [show Q ∈ P from hQ])⟩
end
theorem undo_hit {B x t d m : Nat} {p : Pl} {g : Nat → Nat} {w : World} (h : PX B x t d m p g w) (hB : B ≤ w.heap.size) (hm : m ≤ 1300000000000) {i : Nat} (hi : i < p.BL.length) {r : Rec} {H' : List Rec} {P : List (List RN)} {L : List RN} (hH : p.H = r :: H') (hP : p.PL = P ++ [L]) (hz : p.SL[i]? = some ((p.PL.length : Nat) : Int)) : Calls Try.prog 27 #[.pointer (some ⟨x, 0, none⟩), .int .i64 (i : Int)] w (UPost B x t d m p g w (i : Int)) := by
  have hmb := h.mb
  have hln := h.ln.len
  obtain ⟨bb, c, ebv⟩ := h.ps.backs.form (i := i) (by rw [List.length_map]; exact hi)
  obtain ⟨sb, sc, esv⟩ := h.ps.steps.form (i := i) (by rw [List.length_map]; omega)
  rw [List.length_map] at ebv esv
  obtain ⟨n, hnn⟩ : ∃ n, p.BL.length = n := ⟨_, rfl⟩
  have HN := hidMk hnn
  have hnb : n ≤ 1300000000000 := by omega
  have hin : i < n := by omega
  have hns : p.SL.length = n := by omega
  rw [hnn] at ebv
  rw [hns] at esv
  have HBV := hidMk ebv
  have HSV := hidMk esv
  have HB0 := hidMk hB
  have HH := hidMk hH
  have HP := hidMk hP
  have HSI := hidMk hz
  have HBI := hidMk (h.ln.undone hH hP hz p.s p.vn p.vp p.us p.sv).2.2
  have HPn := hidMk (show P.length ≤ 1300000000000 by have := h.mp; rw [hP] at this; simp at this; omega)
  have HNS := hidMk hns
  clear hH hP hz hnn hns ebv esv hmb hln hi hB
  have h1 := h
  have b1 : Below w.heap.size w w := Below.refl _ _
  go_enter Try.func27, Try.ntmps27
  have c2 : w.cell? ⟨x, 2, none⟩ = some (.slice (some ⟨bb, 0, none⟩) n c) := by rw [← HBV.out, ← h1.x]; exact cell_p2 h1.ps.cell
  have HB1 := hidMk (show B ≤ w.heap.size from Nat.le_trans HB0.out b1.size)
  go_upto_region 5 with fail
  clear c2
  have hd1 := h1.below (Below.refl w.heap.size w).drew
  have hS : ∀ (g2 : Nat → Nat) (W : World) (q : Pl), PS B g2 W q → q.x = x → q.s.t = t → q.d = d → q.bv = p.bv → q.BL = p.BL → q.sv = p.sv → q.SL = p.SL → W.heap[x]? = some (.cells #[.pointer (some ⟨t, 0, none⟩), .pointer (some ⟨d, 0, none⟩), .slice (some ⟨bb, 0, none⟩) n c, .slice (some ⟨sb, 0, none⟩) n sc] 32 (0, 0)) ∧ W.cell? ⟨bb, i, none⟩ = some (bkV (some r.bk)) ∧ W.cell? ⟨sb, i, none⟩ = some (.int .i64 ((p.PL.length : Nat) : Int)) := by
    intro g2 W q hq q1 q2 q3 q4 q5 q6 q7
    refine ⟨?_, hq.backs.hit (by rw [q4]; exact HBV.out) (by rw [q5, List.getElem?_map, HBI.out]; rfl), hq.steps.hit (by rw [q6]; exact HSV.out) (by rw [q7, List.getElem?_map, HSI.out]; rfl)⟩
    rw [← q1, ← q2, ← q3, ← HBV.out, ← HSV.out, ← q4, ← q6]
    exact hq.cell
  refine undo5 (fun W => W.heap[x]? = some (.cells #[.pointer (some ⟨t, 0, none⟩), .pointer (some ⟨d, 0, none⟩), .slice (some ⟨bb, 0, none⟩) n c, .slice (some ⟨sb, 0, none⟩) n sc] 32 (0, 0)) ∧ W.cell? ⟨bb, i, none⟩ = some (bkV (some r.bk)) ∧ W.cell? ⟨sb, i, none⟩ = some (.int .i64 ((p.PL.length : Nat) : Int)))
    (fun v W => v = .int .i64 0 ∧ ∃ g' s', s'.t = t ∧ Ext w g g' ∧ Tch (Mut g) w W ∧ PS B g' W { p with s := s', H := H', f := upd p.f r.k r.o }) x bb i (.pointer (some ⟨t, 0, none⟩)) (.slice (some ⟨bb, 0, none⟩) n c) (.int .i64 (i : Int)) (bkV (some r.bk)) _ w _ rfl rfl rfl (hS _ _ _ hd1.ps hd1.x hd1.t hd1.d rfl rfl rfl rfl) ?_ ?_ ?_ ?_ ?_ ?_
  · refine (hit_one hd1 HB1.out HH.out HP.out HSI.out).mono ?_
    rintro e w2 ⟨rfl, g2, s', e2, e3, e4, e5⟩
    exact ⟨_, rfl, hS _ _ _ e5 hd1.x e2 hd1.d rfl rfl rfl rfl, rfl, g2, s', e2, e3, e4.dr, e5⟩
  · exact fun W hW => load_tp (cell_p0 hW.1)
  · exact fun W hW => load_bs (cell_p2 hW.1)
  · exact fun W => ix_bk hin (by omega) W
  · exact fun W hW => load_bk hW.2.1
  rintro v a' w2 ⟨rfl, g2, s', e2, e3, e4, e5⟩ ha
  subst ha
  simp only [Act.put, List.setIfInBounds_toArray, List.set_cons_zero, List.set_cons_succ]
  go_upto_region 6 with fail
  have hd2 : PS B g2 w2.drew { p with s := s', H := H', f := upd p.f r.k r.o } := e5.below (Below.refl w2.heap.size w2).drew
  refine undo6 (fun W => W.heap[x]? = some (.cells #[.pointer (some ⟨t, 0, none⟩), .pointer (some ⟨d, 0, none⟩), .slice (some ⟨bb, 0, none⟩) n c, .slice (some ⟨sb, 0, none⟩) n sc] 32 (0, 0)) ∧ W.cell? ⟨bb, i, none⟩ = some (bkV (some r.bk)) ∧ W.cell? ⟨sb, i, none⟩ = some (.int .i64 ((p.PL.length : Nat) : Int)))
    (fun v W => v = .int .i64 0 ∧ ∃ g' u vp' us0, Ext w2 g2 g' ∧ Tch (Mut g2) w2 W ∧ PS B g' W { p with s := s', H := H', f := upd p.f r.k r.o, NL := L, PL := P, vn := u, vp := vp', us := us0 }) x sb i (.pointer (some ⟨d, 0, none⟩)) (.slice (some ⟨sb, 0, none⟩) n sc) (.int .i64 (i : Int)) (.int .i64 ((p.PL.length : Nat) : Int)) _ w2 _ rfl rfl rfl (hS _ _ _ hd2 hd1.x e2 hd1.d rfl rfl rfl rfl) ?_ ?_ ?_ ?_ ?_ ?_
  · have hru := ps_rundo hd2 (show B ≤ w2.drew.heap.size from Nat.le_trans HB1.out e4.size) (P := P) (L := L) hd1.d HP.out HPn.out
    refine hru.mono ?_
    rintro e w3 ⟨rfl, g3, u, vp', us0, f1, f2, f3⟩
    exact ⟨_, rfl, hS _ _ _ f3 hd1.x e2 hd1.d rfl rfl rfl rfl, rfl, g3, u, vp', us0, f1, f2.dr, f3⟩
  · exact fun W hW => load_dp (cell_p1 hW.1)
  · exact fun W hW => load_is (cell_p3 hW.1)
  · exact fun W => ix_in hin (by omega) W
  · exact fun W hW => load_in hW.2.2
  rintro v a' w3 ⟨rfl, g3, u, vp', us0, f1, f2, f3⟩ ha
  subst ha
  simp only [Act.put, List.setIfInBounds_toArray, List.set_cons_zero, List.set_cons_succ]
  obtain ⟨gb, cc, q1, q2, g4, x1, x2, x3⟩ := steps_set f3 (Nat.le_trans HB1.out (Nat.le_trans e4.size f2.size)) (i := i) (by show i < p.SL.length; have := HNS.out; omega) 0
  have q1' : p.sv = .slice (some ⟨gb, 0, none⟩) p.SL.length cc := q1
  rw [HSV.out] at q1'
  injection q1' with q1' qa qb
  clear qa qb
  injection q1' with q1'
  injection q1' with q1'
  subst q1'
  have HST := hidMk q2
  have HL3 := hidMk (load_is (cell_p3 (hS _ _ _ f3 hd1.x e2 hd1.d rfl rfl rfl rfl).1))
  have HIX := hidMk (fun W => ix_in (b := sb) (c := sc) hin (show n ≤ 9223372036854775807 by omega) W)
  have T2 := hidMk (Tch.trans' (O' := Mut g2) e4 f2 (fun j hj q => by unfold Mut at q ⊢; rwa [e3 j hj] at q))
  have z2 := e4.size
  have z3 := f2.size
  have T3 := hidMk (Tch.trans' (O' := Mut g3) T2.out x2 (fun j hj q => by unfold Mut at q ⊢; rwa [f1 j (by omega), e3 j hj] at q))
  have EX := hidMk ((e3.trans f1 z2).trans x1 (by omega))
  have FIN := hidMk (hit_fin h1 HH.out HP.out HSI.out e2 x3)
  have CC1 := hidMk b1
  clear q1 q2 x1 x2 x3 f1 f2 f3 e3 e4 e5 hS hd1 hd2 z2 z3 b1
  go_wp2_with (first
    | (refine wpList_val rfl (exec_load (t := 30) (u := .pointer (some ⟨x, 3, none⟩)) rfl rfl HL3.out) ?_)
    | (refine wpList_val rfl (exec_indexAt (t := 30) (xv := .slice (some ⟨sb, 0, none⟩) n sc) rfl rfl rfl (HIX.out _)) ?_)
    | (refine wpList_skip rfl rfl (exec_store (t := 3) (xv := .pointer (some ⟨sb, i, none⟩)) (yv := .int .i64 0) rfl rfl rfl HST.out) ?_)
    | fail)
  go_ret
  refine ⟨rfl, g4, _, fun j hj => EX.out j (Nat.lt_of_lt_of_le hj CC1.out.size), Tch.trans (tch_below CC1.out) T3.out, FIN.out, ?_⟩
  intro e; omega
theorem undo_last {B x t d m : Nat} {p : Pl} {g : Nat → Nat} {w : World} (h : PX B x t d m p g w) (hB : B ≤ w.heap.size) (hm : m ≤ 1300000000000) {r : Rec} {H' : List Rec} {P : List (List RN)} {L : List RN} (hH : p.H = r :: H') (hP : p.PL = P ++ [L]) : Calls Try.prog 27 #[.pointer (some ⟨x, 0, none⟩), .int .i64 (-1)] w (UPost B x t d m p g w (-1)) := by
  have HL := hidMk (last_any h hm)
  have HHP := hidMk (And.intro hH hP)
  have HB00 := hidMk hB
  have HMM := hidMk hm
  clear hH hP hB hm
  go_enter Try.func27, Try.ntmps27
  go_upto_region 3 with (first
    | (go_at_call 26; refine HL.out.mono ?_; rintro e w1 ⟨z, rfl, hz, b1⟩)
    | fail)
  have h1 := h.below b1
  rcases hz with ⟨rfl, q⟩ | ⟨i, rfl, hi, hz, hpos⟩
  · rw [HHP.out.1] at q; cases q
  have hH := HHP.out.1
  have hP := HHP.out.2
  have hB := HB00.out
  have hm := HMM.out
  clear hpos HL
  have hmb := h.mb
  have hln := h.ln.len
  obtain ⟨bb, c, ebv⟩ := h.ps.backs.form (i := i) (by rw [List.length_map]; exact hi)
  obtain ⟨sb, sc, esv⟩ := h.ps.steps.form (i := i) (by rw [List.length_map]; omega)
  rw [List.length_map] at ebv esv
  obtain ⟨n, hnn⟩ : ∃ n, p.BL.length = n := ⟨_, rfl⟩
  have HN := hidMk hnn
  have hnb : n ≤ 1300000000000 := by omega
  have hin : i < n := by omega
  have hns : p.SL.length = n := by omega
  rw [hnn] at ebv
  rw [hns] at esv
  have HBV := hidMk ebv
  have HSV := hidMk esv
  have HB0 := hidMk hB
  have HH := hidMk hH
  have HP := hidMk hP
  have HSI := hidMk hz
  have HBI := hidMk (h.ln.undone hH hP hz p.s p.vn p.vp p.us p.sv).2.2
  have HPn := hidMk (show P.length ≤ 1300000000000 by have := h.mp; rw [hP] at this; simp at this; omega)
  have HNS := hidMk hns
  clear hH hP hz hnn hns ebv esv hmb hln hi hB
  have c2 : w1.cell? ⟨x, 2, none⟩ = some (.slice (some ⟨bb, 0, none⟩) n c) := by rw [← HBV.out, ← h1.x]; exact cell_p2 h1.ps.cell
  have HB1 := hidMk (show B ≤ w1.heap.size from Nat.le_trans HB0.out b1.size)
  go_upto_region 5 with fail
  clear c2
  have hd1 := h1.below (Below.refl w1.heap.size w1).drew
  have hS : ∀ (g2 : Nat → Nat) (W : World) (q : Pl), PS B g2 W q → q.x = x → q.s.t = t → q.d = d → q.bv = p.bv → q.BL = p.BL → q.sv = p.sv → q.SL = p.SL → W.heap[x]? = some (.cells #[.pointer (some ⟨t, 0, none⟩), .pointer (some ⟨d, 0, none⟩), .slice (some ⟨bb, 0, none⟩) n c, .slice (some ⟨sb, 0, none⟩) n sc] 32 (0, 0)) ∧ W.cell? ⟨bb, i, none⟩ = some (bkV (some r.bk)) ∧ W.cell? ⟨sb, i, none⟩ = some (.int .i64 ((p.PL.length : Nat) : Int)) := by
    intro g2 W q hq q1 q2 q3 q4 q5 q6 q7
    refine ⟨?_, hq.backs.hit (by rw [q4]; exact HBV.out) (by rw [q5, List.getElem?_map, HBI.out]; rfl), hq.steps.hit (by rw [q6]; exact HSV.out) (by rw [q7, List.getElem?_map, HSI.out]; rfl)⟩
    rw [← q1, ← q2, ← q3, ← HBV.out, ← HSV.out, ← q4, ← q6]
    exact hq.cell
  refine undo5 (fun W => W.heap[x]? = some (.cells #[.pointer (some ⟨t, 0, none⟩), .pointer (some ⟨d, 0, none⟩), .slice (some ⟨bb, 0, none⟩) n c, .slice (some ⟨sb, 0, none⟩) n sc] 32 (0, 0)) ∧ W.cell? ⟨bb, i, none⟩ = some (bkV (some r.bk)) ∧ W.cell? ⟨sb, i, none⟩ = some (.int .i64 ((p.PL.length : Nat) : Int)))
    (fun v W => v = .int .i64 0 ∧ ∃ g' s', s'.t = t ∧ Ext w1 g g' ∧ Tch (Mut g) w1 W ∧ PS B g' W { p with s := s', H := H', f := upd p.f r.k r.o }) x bb i (.pointer (some ⟨t, 0, none⟩)) (.slice (some ⟨bb, 0, none⟩) n c) (.int .i64 (i : Int)) (bkV (some r.bk)) _ w1 _ rfl rfl rfl (hS _ _ _ hd1.ps hd1.x hd1.t hd1.d rfl rfl rfl rfl) ?_ ?_ ?_ ?_ ?_ ?_
  · refine (hit_one hd1 HB1.out HH.out HP.out HSI.out).mono ?_
    rintro e w2 ⟨rfl, g2, s', e2, e3, e4, e5⟩
    exact ⟨_, rfl, hS _ _ _ e5 hd1.x e2 hd1.d rfl rfl rfl rfl, rfl, g2, s', e2, e3, e4.dr, e5⟩
  · exact fun W hW => load_tp (cell_p0 hW.1)
  · exact fun W hW => load_bs (cell_p2 hW.1)
  · exact fun W => ix_bk hin (by omega) W
  · exact fun W hW => load_bk hW.2.1
  rintro v a' w2 ⟨rfl, g2, s', e2, e3, e4, e5⟩ ha
  subst ha
  simp only [Act.put, List.setIfInBounds_toArray, List.set_cons_zero, List.set_cons_succ]
  go_upto_region 6 with fail
  have hd2 : PS B g2 w2.drew { p with s := s', H := H', f := upd p.f r.k r.o } := e5.below (Below.refl w2.heap.size w2).drew
  refine undo6 (fun W => W.heap[x]? = some (.cells #[.pointer (some ⟨t, 0, none⟩), .pointer (some ⟨d, 0, none⟩), .slice (some ⟨bb, 0, none⟩) n c, .slice (some ⟨sb, 0, none⟩) n sc] 32 (0, 0)) ∧ W.cell? ⟨bb, i, none⟩ = some (bkV (some r.bk)) ∧ W.cell? ⟨sb, i, none⟩ = some (.int .i64 ((p.PL.length : Nat) : Int)))
    (fun v W => v = .int .i64 0 ∧ ∃ g' u vp' us0, Ext w2 g2 g' ∧ Tch (Mut g2) w2 W ∧ PS B g' W { p with s := s', H := H', f := upd p.f r.k r.o, NL := L, PL := P, vn := u, vp := vp', us := us0 }) x sb i (.pointer (some ⟨d, 0, none⟩)) (.slice (some ⟨sb, 0, none⟩) n sc) (.int .i64 (i : Int)) (.int .i64 ((p.PL.length : Nat) : Int)) _ w2 _ rfl rfl rfl (hS _ _ _ hd2 hd1.x e2 hd1.d rfl rfl rfl rfl) ?_ ?_ ?_ ?_ ?_ ?_
  · have hru := ps_rundo hd2 (show B ≤ w2.drew.heap.size from Nat.le_trans HB1.out e4.size) (P := P) (L := L) hd1.d HP.out HPn.out
    refine hru.mono ?_
    rintro e w3 ⟨rfl, g3, u, vp', us0, f1, f2, f3⟩
    exact ⟨_, rfl, hS _ _ _ f3 hd1.x e2 hd1.d rfl rfl rfl rfl, rfl, g3, u, vp', us0, f1, f2.dr, f3⟩
  · exact fun W hW => load_dp (cell_p1 hW.1)
  · exact fun W hW => load_is (cell_p3 hW.1)
  · exact fun W => ix_in hin (by omega) W
  · exact fun W hW => load_in hW.2.2
  rintro v a' w3 ⟨rfl, g3, u, vp', us0, f1, f2, f3⟩ ha
  subst ha
  simp only [Act.put, List.setIfInBounds_toArray, List.set_cons_zero, List.set_cons_succ]
  obtain ⟨gb, cc, q1, q2, g4, x1, x2, x3⟩ := steps_set f3 (Nat.le_trans HB1.out (Nat.le_trans e4.size f2.size)) (i := i) (by show i < p.SL.length; have := HNS.out; omega) 0
  have q1' : p.sv = .slice (some ⟨gb, 0, none⟩) p.SL.length cc := q1
  rw [HSV.out] at q1'
  injection q1' with q1' qa qb
  clear qa qb
  injection q1' with q1'
  injection q1' with q1'
  subst q1'
  have HST := hidMk q2
  have HL3 := hidMk (load_is (cell_p3 (hS _ _ _ f3 hd1.x e2 hd1.d rfl rfl rfl rfl).1))
  have HIX := hidMk (fun W => ix_in (b := sb) (c := sc) hin (show n ≤ 9223372036854775807 by omega) W)
  have T2 := hidMk (Tch.trans' (O' := Mut g2) e4 f2 (fun j hj q => by unfold Mut at q ⊢; rwa [e3 j hj] at q))
  have z2 := e4.size
  have z3 := f2.size
  have T3 := hidMk (Tch.trans' (O' := Mut g3) T2.out x2 (fun j hj q => by unfold Mut at q ⊢; rwa [f1 j (by omega), e3 j hj] at q))
  have EX := hidMk ((e3.trans f1 z2).trans x1 (by omega))
  have FIN := hidMk (hit_fin h1 HH.out HP.out HSI.out e2 x3)
  have CC1 := hidMk b1
  clear q1 q2 x1 x2 x3 f1 f2 f3 e3 e4 e5 hS hd1 hd2 z2 z3 b1
  go_wp2_with (first
    | (refine wpList_val rfl (exec_load (t := 30) (u := .pointer (some ⟨x, 3, none⟩)) rfl rfl HL3.out) ?_)
    | (refine wpList_val rfl (exec_indexAt (t := 30) (xv := .slice (some ⟨sb, 0, none⟩) n sc) rfl rfl rfl (HIX.out _)) ?_)
    | (refine wpList_skip rfl rfl (exec_store (t := 3) (xv := .pointer (some ⟨sb, i, none⟩)) (yv := .int .i64 0) rfl rfl rfl HST.out) ?_)
    | fail)
  go_ret
  refine ⟨rfl, g4, _, fun j hj => EX.out j (Nat.lt_of_lt_of_le hj CC1.out.size), Tch.trans (tch_below CC1.out) T3.out, FIN.out, ?_⟩
  intro _; rw [HH.out]; rfl
theorem undo_any {B x t d m : Nat} {p : Pl} {g : Nat → Nat} {w : World} (h : PX B x t d m p g w) (hB : B ≤ w.heap.size) (hm : m ≤ 1300000000000) (z : Int) : Calls Try.prog 27 #[.pointer (some ⟨x, 0, none⟩), .int .i64 z] w (UPost B x t d m p g w z) := by
  by_cases hz : z = -1
  · subst hz
    cases hH : p.H with
    | nil => exact undo_last_none h hB hm hH
    | cons r H' =>
      have hh := h.ln.hm
      rw [hH] at hh
      obtain ⟨P, L, e, _⟩ := hh.front
      exact undo_last h hB hm hH e
  · by_cases ho : z < 0 ∨ (p.BL.length : Int) ≤ z
    · exact undo_out h hB hm hz ho
    · obtain ⟨i, rfl⟩ : ∃ i : Nat, z = (i : Int) := ⟨z.toNat, by omega⟩
      have hi : i < p.BL.length := by omega
      rcases h.ln.meets hi with ⟨h1, h2⟩ | ⟨b, z, h1, h2, h3, h4⟩ | ⟨r, H', P, L, h1, h2, h3, h4⟩
      · refine undo_miss h hB hm hi h2 h1 (fun W b => ?_) (Or.inl (by decide))
        rw [← h.t]
        exact undo_none p.s p.H W (h.below b).ps.own.tree
      · refine undo_miss h hB hm hi h2 h1 (fun W bl => ?_) h4
        rw [← h.t]
        obtain ⟨_, c, hc⟩ := (h.below bl).ps.bk b (List.mem_of_getElem? h2)
        exact undo_no p.s p.H b c W (h.below bl).ps.own.tree hc h3
      · exact undo_hit h hB hm hi h1 h2 h3
def SPost (B x t d m : Nat) (g : Nat → Nat) (w : World) (e : Ending) (w' : World) : Prop := e = .returned (.bool true) ∧ ∃ g' p', Ext w g g' ∧ Tch (Mut g) w w' ∧ PX B x t d (m + 1) p' g' w'
section
variable {B x t d m : Nat} {p : Pl} {g : Nat → Nat} {w : World}
theorem ps_tree_no (h : PX B x t d m p g w) {k : IdK} {n : NodeV} {c : Int} (hc : c ≠ 0) {F : Nat} {args : Array Value} (hC : Calls Try.prog F args w (StepP B w p.s p.H p.f k n c)) :
    Calls Try.prog F args w fun e w' => e = .returned (.tuple #[.pointer none, .int .i64 c]) ∧ Below w.heap.size w w' := by
  refine hC.mono ?_
  rintro e w' (⟨_, h1, h2⟩ | ⟨h1, _⟩)
  · exact ⟨h1, h2⟩
  · exact absurd h1 hc
theorem ps_ref_no {NL : List RN} {PL : List (List RN)} {vn vp : Value} {us : List Value} {k : IdK} {n : NodeV} {c : Int} (hc : c ≠ 0) {F : Nat} {args : Array Value} (hC : Calls Try.prog F args w (RStep B w d NL PL vn vp us k n c)) :
    Calls Try.prog F args w fun e w' => e = .returned (.int .i64 c) ∧ Below w.heap.size w w' := by
  refine hC.mono ?_
  rintro e w' (⟨_, h1, h2⟩ | ⟨h1, _⟩)
  · exact ⟨h1, h2⟩
  · exact absurd h1 hc
theorem ps_tree_ok (h : PX B x t d m p g w) (hB : B ≤ w.heap.size) {k : IdK} {n : NodeV} {c : Int} (hc : c = 0) {F : Nat} {args : Array Value} (hC : Calls Try.prog F args w (StepP B w p.s p.H p.f k n c)) :
    Calls Try.prog F args w fun e w' => ∃ g' s' r, e = .returned (.tuple #[.pointer (some ⟨r.bk, 0, none⟩), .int .i64 0]) ∧ s'.t = t ∧ r.k = k ∧ r.o = p.f k ∧ w.heap.size ≤ r.bk ∧ Ext w g g' ∧ Tch (Mut g) w w' ∧ PS B g' w' { p with s := s', H := r :: p.H, f := upd p.f k (some n) } := by
  refine hC.mono ?_
  rintro e w' (⟨h1, _⟩ | ⟨_, s', r, hd⟩)
  · exact absurd hc h1
  · obtain ⟨g', h1, h2, h3, h4⟩ := h.ps.done hB hd
    exact ⟨g', s', r, hd.ret, by rw [hd.t, h.t], hd.rk, hd.ro, h4, h1, h2, h3⟩
theorem ps_ref_ok {q : Pl} (h : PS B g w q) (hB : B ≤ w.heap.size) {k : IdK} {n : NodeV} {c : Int} (hc : c = 0) {F : Nat} {args : Array Value} (hC : Calls Try.prog F args w (RStep B w q.d q.NL q.PL q.vn q.vp q.us k n c)) :
    Calls Try.prog F args w fun e w' => e = .returned (.int .i64 0) ∧ ∃ g' vn vp us, Ext w g g' ∧ Tch (Mut g) w w' ∧ PS B g' w' { q with NL := M.put q.NL k n, PL := q.PL ++ [q.NL], vn := vn, vp := vp, us := us } := by
  refine hC.mono ?_
  rintro e w' (⟨h1, _⟩ | ⟨_, he, vn, vp, us, h1, h2, h3⟩)
  · exact absurd hc h1
  · obtain ⟨g', x1, x2, x3⟩ := h.refd hB h1 h2 h3
    exact ⟨he, g', vn, vp, us, x1, x2, x3⟩
theorem lists_no (h : PX B x t d m p g w) (hB : B ≤ w.heap.size) (hm : m + 1 ≤ 1300000000000) :
    ∃ (lv qv lv2 qv2 : Value) (w1 w2 w3 w4 w5 w6 : World), (Instr.buildSlice 29 1 #[(0, .pointer none)]).run Try.prog w = .ok lv w1 ∧ (Builtin.append_ #[29, 29] 29 #[p.bv, lv]).run Try.prog w1 = .ok qv w2 ∧ (Instr.storeAt 29 (.pointer (some ⟨x, 2, none⟩)) qv).run Try.prog w2 = .ok () w3 ∧
      (Instr.loadAt 30 (.pointer (some ⟨x, 3, none⟩))).run Try.prog w3 = .ok p.sv w3 ∧ (Instr.buildSlice 30 1 #[(0, .int .i64 0)]).run Try.prog w3 = .ok lv2 w4 ∧ (Builtin.append_ #[30, 30] 30 #[p.sv, lv2]).run Try.prog w4 = .ok qv2 w5 ∧ (Instr.storeAt 30 (.pointer (some ⟨x, 3, none⟩)) qv2).run Try.prog w5 = .ok () w6 ∧ SPost B x t d m g w (.returned (.bool true)) w6 := by
  have hmb := h.mb
  have hln := h.ln.len
  obtain ⟨lv, qv, w1, w2, w3, e1, e2, e3, g1, x1, x2, x3⟩ := backs_runs h.ps hB (by omega) none (fun c hc => by cases hc)
  have hB3 : B ≤ w3.heap.size := Nat.le_trans hB x2.size
  obtain ⟨lv2, qv2, w4, w5, w6, e4, e5, e6, g2, y1, y2, y3⟩ := steps_runs x3 hB3 (by show p.SL.length ≤ _; omega) 0
  have hld := load_is (cell_p3 x3.cell)
  have hpx := h.x
  simp only at e6 hld e5
  rw [hpx] at e3 e6 hld
  refine ⟨lv, qv, lv2, qv2, w1, w2, w3, w4, w5, w6, e1, e2, e3, hld, e4, e5, e6, rfl, g2, { p with bv := qv, BL := p.BL ++ [none], sv := qv2, SL := p.SL ++ [0] }, x1.trans y1 x2.size, mut_ext x1 x2 y2, h.x, h.t, h.d, y3, h.ln.refused qv qv2, by simp; omega, Nat.le_succ_of_le h.mn, Nat.le_succ_of_le h.mp, fun P hP => Nat.le_succ_of_le (h.mq P hP)⟩
theorem put_len_le (NL : List RN) (k : IdK) (n : NodeV) : (M.put NL k n).length ≤ NL.length + 1 := by
  rw [M.put_len]; split <;> omega
theorem lists_ok {w0 : World} {g0 : Nat → Nat} (h : PX B x t d m p g0 w0) (hB : B ≤ w.heap.size) (hm : m + 1 ≤ 1300000000000) {s' : Tr} {r : Rec} {k : IdK} {n : NodeV} {vn vp : Value} {us : List Value} (ht : s'.t = t) (rk : r.k = k) (ro : r.o = p.f k) (hrb : w0.heap.size ≤ r.bk) (ex : Ext w0 g0 g) (tc : Tch (Mut g0) w0 w)
    (ps : PS B g w { p with s := s', H := r :: p.H, f := upd p.f k (some n), NL := M.put p.NL k n, PL := p.PL ++ [p.NL], vn := vn, vp := vp, us := us }) :
    ∃ (lv qv lv2 qv2 : Value) (w1 w2 w3 w4 w5 w6 : World), (Instr.buildSlice 29 1 #[(0, .pointer (some ⟨r.bk, 0, none⟩))]).run Try.prog w = .ok lv w1 ∧ (Builtin.append_ #[29, 29] 29 #[p.bv, lv]).run Try.prog w1 = .ok qv w2 ∧ (Instr.storeAt 29 (.pointer (some ⟨x, 2, none⟩)) qv).run Try.prog w2 = .ok () w3 ∧
      (Instr.loadAt 30 (.pointer (some ⟨x, 3, none⟩))).run Try.prog w3 = .ok p.sv w3 ∧ (Instr.buildSlice 30 1 #[(0, .int .i64 ((p.PL.length + 1 : Nat) : Int))]).run Try.prog w3 = .ok lv2 w4 ∧ (Builtin.append_ #[30, 30] 30 #[p.sv, lv2]).run Try.prog w4 = .ok qv2 w5 ∧ (Instr.storeAt 30 (.pointer (some ⟨x, 3, none⟩)) qv2).run Try.prog w5 = .ok () w6 ∧ SPost B x t d m g0 w0 (.returned (.bool true)) w6 := by
  have hmb := h.mb
  have hmn := h.mn
  have hmp := h.mp
  have hln := h.ln.len
  have hpl := put_len_le p.NL k n
  have hbk : ∃ q, w.heap[r.bk]? = some (.cells q 103 (0, 0)) := Hist.back ps.own.tree.hist.1
  obtain ⟨lv, qv, w1, w2, w3, e1, e2, e3, g1, x1, x2, x3⟩ := backs_runs ps hB (by show p.BL.length ≤ _; omega) (some r.bk) (fun c hc => by
    cases hc
    exact ⟨ps.g2 r (List.mem_cons_self ..) r.bk (by simp [Rec.bl]), hbk⟩)
  have hB3 : B ≤ w3.heap.size := Nat.le_trans hB x2.size
  obtain ⟨lv2, qv2, w4, w5, w6, e4, e5, e6, g2, y1, y2, y3⟩ := steps_runs x3 hB3 (by show p.SL.length ≤ _; omega) ((p.PL.length + 1 : Nat) : Int)
  have hld := load_is (cell_p3 x3.cell)
  have hpx := h.x
  simp only at e6 hld e5 e3 e2
  rw [hpx] at e3 e6 hld
  have old : ∀ q ∈ p.H, q.bk ≠ r.bk := fun q hq e => by
    have := h.ps.own.tree.hist.lt q hq q.bk (by simp [Rec.bl])
    omega
  have old2 : ∀ b, some b ∈ p.BL → b ≠ r.bk := fun b hb e => by
    obtain ⟨_, c, hc⟩ := h.ps.bk b hb
    have := (Array.getElem?_eq_some_iff.1 hc).1
    omega
  have hL := h.ln.done h.ps.own.ft (n := n) (s' := s') rk ro h.ps.ref.nd old old2 vn vp us qv qv2
  refine ⟨lv, qv, lv2, qv2, w1, w2, w3, w4, w5, w6, e1, e2, e3, hld, e4, e5, e6, rfl, g2, { p with s := s', H := r :: p.H, f := upd p.f k (some n), NL := M.put p.NL k n, PL := p.PL ++ [p.NL], vn := vn, vp := vp, us := us, bv := qv, BL := p.BL ++ [some r.bk], sv := qv2, SL := p.SL ++ [((p.PL.length + 1 : Nat) : Int)] }, (ex.trans x1 tc.size).trans y1 (Nat.le_trans tc.size x2.size), mut_ext ex tc (mut_ext x1 x2 y2), h.x, ht, h.d, y3, hL, by simp; omega, by show (M.put p.NL k n).length ≤ m + 1; omega, by simp; omega, fun P hP => ?_⟩
  rcases List.mem_append.1 hP with q | q
  · exact Nat.le_succ_of_le (h.mq P q)
  · simp at q; subst q; omega
end
theorem op_box (w : World) (o : OpV) : (w.alloc (.cells o.c.toArray 39)).heap[w.heap.size]? = some (.cells o.c.toArray 39 (0, 0)) ∧ Below w.heap.size w (w.alloc (.cells o.c.toArray 39)) ∧ (w.alloc (.cells o.c.toArray 39)).heap.size = w.heap.size + 1 := ⟨heap_alloc_new _ _, (Below.refl _ _).alloc (Nat.le_refl _) _, by simp⟩
theorem op_range {w : World} {b : Nat} {o : OpV} (h : w.heap[b]? = some (.cells o.c.toArray 39 (0, 0))) : w.rangeAt b 0 o.c := cells_range h
theorem step_grow_no {B x t d m : Nat} {p : Pl} {g : Nat → Nat} {w : World} (h : PX B x t d m p g w) (hB : B ≤ w.heap.size) (hm : m + 1 ≤ 1300000000000) (o : OpV) (ok : o.ok) (hk : o.kind = 0) (hc : gC p.f o.id o.under ≠ 0) : Calls Try.prog 12 #[.pointer (some ⟨x, 0, none⟩), .agg o.c.toArray] w (SPost B x t d m g w) := by
  have HE := hidMk h.ln.eq
  have HNL := hidMk (show p.NL.length ≤ 1300000000000 by have := h.mn; omega)
  have HPL := hidMk (show p.PL.length ≤ 1300000000000 by have := h.mp; omega)
  have HB0 := hidMk hB
  have HM := hidMk hm
  have HC := hidMk hc
  obtain ⟨c, hcc⟩ : ∃ c, gC p.f o.id o.under = c := ⟨_, rfl⟩
  have HCC := hidMk hcc
  have hc0 : ¬ c = 0 := by rw [← hcc]; exact hc
  clear hcc hc hB hm
  go_enter Try.func12, Try.ntmps12
  go_upto_region 3 with fail
  obtain ⟨hbo, bx, zx⟩ := op_box w o
  generalize w.alloc (.cells o.c.toArray 39) = W at *
  have lbo : w.heap.size < W.heap.size := by omega
  have ck : W.cell? ⟨w.heap.size, 0, none⟩ = some (.int .i64 o.kind) := op_range hbo 0 _ rfl
  clear zx
  obtain ⟨bo, hbb⟩ : ∃ bo, w.heap.size = bo := ⟨_, rfl⟩
  have HBB := hidMk hbb
  rw [hbb] at hbo ck lbo ⊢
  clear hbb
  rw [hk] at ck
  have hW := h.below bx
  have HB1 := hidMk (show B ≤ W.heap.size from Nat.le_trans HB0.out bx.size)
  clear hk
  go_upto_region 6 with fail
  clear ck
  have bd : Below W.heap.size W W.drew := (Below.refl _ _).drew
  have hS : ∀ V, Below W.heap.size W V → (fun V => V.heap[x]? = some (.cells #[.pointer (some ⟨t, 0, none⟩), .pointer (some ⟨d, 0, none⟩), p.bv, p.sv] 32 (0, 0)) ∧ V.heap[bo]? = some (.cells o.c.toArray 39 (0, 0))) V := fun V b => ⟨by rw [← h.x, ← h.t, ← h.d]; exact (hW.below b).ps.cell, (b.block _ lbo).trans hbo⟩
  refine step6 (fun V => V.heap[x]? = some (.cells #[.pointer (some ⟨t, 0, none⟩), .pointer (some ⟨d, 0, none⟩), p.bv, p.sv] 32 (0, 0)) ∧ V.heap[bo]? = some (.cells o.c.toArray 39 (0, 0))) (fun tv v V => tv = .pointer none ∧ v = .int .i64 c ∧ Below W.heap.size W V) x bo (.pointer (some ⟨t, 0, none⟩)) o.id.v o.under.v (.string o.key) _ W _ rfl rfl rfl (hS _ bd) ?_ ?_ ?_ ?_ ?_ ?_
  · have hcall := ps_tree_no (hW.below bd) HC.out (grow_all (hW.below bd).ps.own HB1.out o.id o.under o.key ok.id ok.under)
    rw [h.t, HCC.out] at hcall
    refine hcall.mono ?_
    rintro e w2 ⟨rfl, b2⟩
    exact ⟨_, _, rfl, hS _ (bd.trans (b2.mono bd.size)), rfl, rfl, bd.trans (b2.mono bd.size)⟩
  · exact fun V hV => load_tp (cell_p0 hV.1)
  · exact fun V hV => op_id ok (op_range hV.2)
  · exact fun V hV => op_under ok (op_range hV.2)
  · exact fun V hV => op_key ok (op_range hV.2)
  rintro tv v a' w2 ⟨rfl, rfl, b2⟩ ha
  subst ha
  simp only [Act.put, List.setIfInBounds_toArray, List.set_cons_zero, List.set_cons_succ]
  go_upto_region 7 with fail
  have bd2 : Below W.heap.size W w2.drew := b2.drew
  refine step7 (fun V => V.heap[x]? = some (.cells #[.pointer (some ⟨t, 0, none⟩), .pointer (some ⟨d, 0, none⟩), p.bv, p.sv] 32 (0, 0)) ∧ V.heap[bo]? = some (.cells o.c.toArray 39 (0, 0))) (fun v V => v = .int .i64 c ∧ Below W.heap.size W V) x bo (.pointer (some ⟨d, 0, none⟩)) o.id.v o.under.v (.string o.key) _ w2 _ rfl rfl rfl (hS _ bd2) ?_ ?_ ?_ ?_ ?_ ?_
  · have hr := (hW.below bd2).ps.ref
    have hcall := ps_ref_no (c := gC (lookN p.NL) o.id o.under) (by rw [HE.out]; exact HC.out) (rgrow_all hr (Nat.le_trans HB1.out bd2.size) HNL.out HPL.out o.id ok.id o.under o.key ok.under)
    rw [h.d, HE.out, HCC.out] at hcall
    refine hcall.mono ?_
    rintro e w3 ⟨rfl, b3⟩
    exact ⟨_, rfl, hS _ (bd2.trans (b3.mono bd2.size)), rfl, bd2.trans (b3.mono bd2.size)⟩
  · exact fun V hV => load_dp (cell_p1 hV.1)
  · exact fun V hV => op_id ok (op_range hV.2)
  · exact fun V hV => op_under ok (op_range hV.2)
  · exact fun V hV => op_key ok (op_range hV.2)
  rintro v a' w3 ⟨rfl, b3⟩ ha
  subst ha
  simp only [Act.put, List.setIfInBounds_toArray, List.set_cons_zero, List.set_cons_succ]
  have b03 := bx.trans (b3.mono bx.size)
  obtain ⟨lv, qv, lv2, qv2, w4, w5, w6, w7, w8, w9, e1, e2, e3, e4, e5, e6, e7, fin⟩ := lists_no (h.below b03) (Nat.le_trans HB0.out b03.size) HM.out
  have E0 := hidMk (load_bs (cell_p2 (hS _ b3).1))
  have E1 := hidMk e1
  have E2 := hidMk e2
  have E3 := hidMk e3
  have E4 := hidMk e4
  have E5 := hidMk e5
  have E6 := hidMk e6
  have E7 := hidMk e7
  have FIN := hidMk fin
  have B03 := hidMk b03
  clear e1 e2 e3 e4 e5 e6 e7 fin b03 hS b3 b2 bd bd2
  generalize p.bv = bv at *
  generalize p.sv = sv at *
  go_wp2_with (first
    | (refine wpList_val rfl (exec_load (t := 29) (u := .pointer (some ⟨x, 2, none⟩)) rfl rfl E0.out) ?_)
    | (refine wpList_run rfl (exec_buildSlice (t := 29) (n := 1) (xv := .pointer none) (v := lv) rfl rfl E1.out) ?_)
    | (refine wpList_run rfl (exec_append (ts := #[29, 29]) (xv := bv) (yv := lv) (v := qv) rfl rfl rfl E2.out) ?_)
    | (refine wpList_skip rfl rfl (exec_store (t := 29) (xv := .pointer (some ⟨x, 2, none⟩)) (yv := qv) rfl rfl rfl E3.out) ?_)
    | (refine wpList_val rfl (exec_load (t := 30) (u := .pointer (some ⟨x, 3, none⟩)) rfl rfl E4.out) ?_)
    | (refine wpList_run rfl (exec_buildSlice (t := 30) (n := 1) (xv := .int .i64 0) (v := lv2) rfl rfl E5.out) ?_)
    | (refine wpList_run rfl (exec_append (ts := #[30, 30]) (xv := sv) (yv := lv2) (v := qv2) rfl rfl rfl E6.out) ?_)
    | (refine wpList_skip rfl rfl (exec_store (t := 30) (xv := .pointer (some ⟨x, 3, none⟩)) (yv := qv2) rfl rfl rfl E7.out) ?_)
    | fail)
  go_ret
  obtain ⟨_, g', p', f1, f2, f3⟩ := FIN.out
  exact ⟨rfl, g', p', fun j hj => f1 j (Nat.lt_of_lt_of_le hj B03.out.size), Tch.trans (tch_below B03.out) f2, f3⟩
theorem step_grow_ok {B x t d m : Nat} {p : Pl} {g : Nat → Nat} {w : World} (h : PX B x t d m p g w) (hB : B ≤ w.heap.size) (hm : m + 1 ≤ 1300000000000) (o : OpV) (ok : o.ok) (hk : o.kind = 0) (hc : gC p.f o.id o.under = 0) : Calls Try.prog 12 #[.pointer (some ⟨x, 0, none⟩), .agg o.c.toArray] w (SPost B x t d m g w) := by
  obtain rfl := h.d
  have HE := hidMk h.ln.eq
  have HNL := hidMk (show p.NL.length ≤ 1300000000000 by have := h.mn; omega)
  have HPL := hidMk (show p.PL.length ≤ 1300000000000 by have := h.mp; omega)
  have HB0 := hidMk hB
  have HM := hidMk hm
  have HC := hidMk hc
  clear hc hB hm
  go_enter Try.func12, Try.ntmps12
  go_upto_region 3 with fail
  obtain ⟨hbo, bx, zx⟩ := op_box w o
  generalize w.alloc (.cells o.c.toArray 39) = W at *
  have lbo : w.heap.size < W.heap.size := by omega
  have ck : W.cell? ⟨w.heap.size, 0, none⟩ = some (.int .i64 o.kind) := op_range hbo 0 _ rfl
  clear zx
  obtain ⟨bo, hbb⟩ : ∃ bo, w.heap.size = bo := ⟨_, rfl⟩
  have HBB := hidMk hbb
  rw [hbb] at hbo ck lbo ⊢
  clear hbb
  rw [hk] at ck
  have hW := h.below bx
  have HB1 := hidMk (show B ≤ W.heap.size from Nat.le_trans HB0.out bx.size)
  clear hk
  go_upto_region 6 with fail
  clear ck
  have bd : Below W.heap.size W W.drew := (Below.refl _ _).drew
  have hd1 := hW.below bd
  have hS0 : (fun V => V.heap[x]? = some (.cells #[.pointer (some ⟨t, 0, none⟩), .pointer (some ⟨p.d, 0, none⟩), p.bv, p.sv] 32 (0, 0)) ∧ V.heap[bo]? = some (.cells o.c.toArray 39 (0, 0))) W.drew := ⟨by rw [← h.x, ← h.t]; exact hd1.ps.cell, hbo⟩
  have gbo : g bo = 0 := by rw [← HBB.out]; exact h.ps.gz _ (Nat.le_refl _)
  have nbo : ¬ Mut g bo := by unfold Mut; rw [gbo]; decide
  have hpx := h.x
  refine step6 (fun V => V.heap[x]? = some (.cells #[.pointer (some ⟨t, 0, none⟩), .pointer (some ⟨p.d, 0, none⟩), p.bv, p.sv] 32 (0, 0)) ∧ V.heap[bo]? = some (.cells o.c.toArray 39 (0, 0))) (fun tv v V => ∃ g' s' r, tv = .pointer (some ⟨r.bk, 0, none⟩) ∧ v = .int .i64 0 ∧ s'.t = t ∧ r.k = o.id ∧ r.o = p.f o.id ∧ W.heap.size ≤ r.bk ∧ Ext W g g' ∧ Tch (Mut g) W V ∧ PS B g' V { p with s := s', H := r :: p.H, f := upd p.f o.id (some ⟨o.under, o.key, false⟩) }) x bo (.pointer (some ⟨t, 0, none⟩)) o.id.v o.under.v (.string o.key) _ W _ rfl rfl rfl hS0 ?_ ?_ ?_ ?_ ?_ ?_
  · have hcall := ps_tree_ok hd1 HB1.out HC.out (grow_all (hd1).ps.own HB1.out o.id o.under o.key ok.id ok.under)
    rw [h.t] at hcall
    refine hcall.mono ?_
    rintro e w2 ⟨g', s', r, rfl, q1, q2, q3, q4, q5, q6, q7⟩
    refine ⟨_, _, rfl, ⟨?_, (q6.block bo (show bo < W.drew.heap.size from lbo) nbo).trans hbo⟩, g', s', r, rfl, rfl, q1, q2, q3, q4, q5, q6.dr, q7⟩
    have := q7.cell
    simp only at this
    rwa [hpx, q1] at this
  · exact fun V hV => load_tp (cell_p0 hV.1)
  · exact fun V hV => op_id ok (op_range hV.2)
  · exact fun V hV => op_under ok (op_range hV.2)
  · exact fun V hV => op_key ok (op_range hV.2)
  rintro tv v a' w2 ⟨g2, s', r, rfl, rfl, q1, q2, q3, q4, q5, q6, q7⟩ ha
  subst ha
  simp only [Act.put, List.setIfInBounds_toArray, List.set_cons_zero, List.set_cons_succ]
  go_upto_region 7 with fail
  have hd2 : PS B g2 w2.drew { p with s := s', H := r :: p.H, f := upd p.f o.id (some ⟨o.under, o.key, false⟩) } := q7.below (Below.refl w2.heap.size w2).drew
  have hbo2 : w2.heap[bo]? = some (.cells o.c.toArray 39 (0, 0)) := (q6.block bo lbo nbo).trans hbo
  have lbo2 : bo < w2.heap.size := Nat.lt_of_lt_of_le lbo q6.size
  have nbo2 : ¬ Mut g2 bo := by unfold Mut; rw [q5 bo lbo, gbo]; decide
  have HB2 := hidMk (show B ≤ w2.heap.size from Nat.le_trans HB1.out q6.size)
  have cell2 : w2.drew.heap[x]? = some (.cells #[.pointer (some ⟨t, 0, none⟩), .pointer (some ⟨p.d, 0, none⟩), p.bv, p.sv] 32 (0, 0)) := by
    have := hd2.cell
    simp only at this
    rwa [hpx, q1] at this
  refine step7 (fun V => V.heap[x]? = some (.cells #[.pointer (some ⟨t, 0, none⟩), .pointer (some ⟨p.d, 0, none⟩), p.bv, p.sv] 32 (0, 0)) ∧ V.heap[bo]? = some (.cells o.c.toArray 39 (0, 0))) (fun v V => v = .int .i64 0 ∧ ∃ g' vn vp us, Ext w2 g2 g' ∧ Tch (Mut g2) w2 V ∧ PS B g' V { p with s := s', H := r :: p.H, f := upd p.f o.id (some ⟨o.under, o.key, false⟩), NL := M.put p.NL o.id ⟨o.under, o.key, false⟩, PL := p.PL ++ [p.NL], vn := vn, vp := vp, us := us }) x bo (.pointer (some ⟨p.d, 0, none⟩)) o.id.v o.under.v (.string o.key) _ w2 _ rfl rfl rfl ⟨cell2, hbo2⟩ ?_ ?_ ?_ ?_ ?_ ?_
  · have hr := hd2.ref
    have hcall := ps_ref_ok hd2 HB2.out (c := gC (lookN p.NL) o.id o.under) (by rw [HE.out]; exact HC.out) (rgrow_all hr (HB2.out) HNL.out HPL.out o.id ok.id o.under o.key ok.under)
    refine hcall.mono ?_
    rintro e w3 ⟨rfl, g3, vn, vp, us, f1, f2, f3⟩
    refine ⟨_, rfl, ⟨?_, (f2.block bo lbo2 nbo2).trans hbo2⟩, rfl, g3, vn, vp, us, f1, f2.dr, f3⟩
    have := f3.cell
    simp only at this
    rwa [hpx, q1] at this
  · exact fun V hV => load_dp (cell_p1 hV.1)
  · exact fun V hV => op_id ok (op_range hV.2)
  · exact fun V hV => op_under ok (op_range hV.2)
  · exact fun V hV => op_key ok (op_range hV.2)
  rintro v a' w3 ⟨rfl, g3, vn, vp, us, f1, f2, f3⟩ ha
  subst ha
  simp only [Act.put, List.setIfInBounds_toArray, List.set_cons_zero, List.set_cons_succ]
  have cell3 : w3.heap[x]? = some (.cells #[.pointer (some ⟨t, 0, none⟩), .pointer (some ⟨p.d, 0, none⟩), p.bv, p.sv] 32 (0, 0)) := by
    have := f3.cell
    simp only at this
    rwa [hpx, q1] at this
  have HS := hidMk (rsteps_any f3.ref)
  simp only [List.length_append, List.length_cons, List.length_nil, Nat.zero_add] at HS
  obtain ⟨N1, hN1⟩ : ∃ N1 : Int, ((p.PL.length + 1 : Nat) : Int) = N1 := ⟨_, rfl⟩
  rw [hN1] at HS
  have HN1 := hidMk hN1
  clear hN1
  have HFIN := hidMk (fun (W4 : World) (b4 : Below w3.heap.size w3 W4) => lists_ok hW (Nat.le_trans HB2.out (Nat.le_trans f2.size b4.size)) HM.out q1 q2 q3 q4 (q5.trans f1 q6.size) (Tch.trans (mut_ext q5 q6 f2) (tch_below b4)) (f3.below b4))
  have HC3 := hidMk (fun (V : World) (b : Below w3.heap.size w3 V) => (b.block x (Array.getElem?_eq_some_iff.1 cell3).1).trans cell3)
  have HL1 := hidMk (load_dp (cell_p1 cell3))
  have HBX := hidMk bx
  clear cell3 cell2 f1 f2 f3 hd2 hbo2 lbo2 nbo2 nbo gbo q2 q3 q4 q5 q6 q7 hd1 hS0 bd hbo lbo hpx bx
  go_upto_region 19 with (first
    | (refine wpList_val rfl (exec_load (t := 27) (u := .pointer (some ⟨x, 1, none⟩)) rfl rfl HL1.out) ?_)
    | (go_at_call 33; refine HS.out.mono ?_; rintro e w4 ⟨rfl, b4⟩; clear HS)
    | fail)
  obtain ⟨lv, qv, lv2, qv2, w5, w6, w7, w8, w9, w10, e1, e2, e3, e4, e5, e6, e7, fin⟩ := HFIN.out w4 b4
  rw [HN1.out] at e5
  have E0 := hidMk (load_bs (cell_p2 (HC3.out _ b4)))
  have E1 := hidMk e1
  have E2 := hidMk e2
  have E3 := hidMk e3
  have E4 := hidMk e4
  have E5 := hidMk e5
  have E6 := hidMk e6
  have E7 := hidMk e7
  have FIN := hidMk fin
  clear e1 e2 e3 e4 e5 e6 e7 fin HFIN HL1 b4
  generalize p.bv = bv at *
  generalize p.sv = sv at *
  go_wp2_with (first
    | (refine wpList_val rfl (exec_load (t := 29) (u := .pointer (some ⟨x, 2, none⟩)) rfl rfl E0.out) ?_)
    | (refine wpList_run rfl (exec_buildSlice (t := 29) (n := 1) (xv := .pointer (some ⟨r.bk, 0, none⟩)) (v := lv) rfl rfl E1.out) ?_)
    | (refine wpList_run rfl (exec_append (ts := #[29, 29]) (xv := bv) (yv := lv) (v := qv) rfl rfl rfl E2.out) ?_)
    | (refine wpList_skip rfl rfl (exec_store (t := 29) (xv := .pointer (some ⟨x, 2, none⟩)) (yv := qv) rfl rfl rfl E3.out) ?_)
    | (refine wpList_val rfl (exec_load (t := 30) (u := .pointer (some ⟨x, 3, none⟩)) rfl rfl E4.out) ?_)
    | (refine wpList_run rfl (exec_buildSlice (t := 30) (n := 1) (xv := .int .i64 N1) (v := lv2) rfl rfl E5.out) ?_)
    | (refine wpList_run rfl (exec_append (ts := #[30, 30]) (xv := sv) (yv := lv2) (v := qv2) rfl rfl rfl E6.out) ?_)
    | (refine wpList_skip rfl rfl (exec_store (t := 30) (xv := .pointer (some ⟨x, 3, none⟩)) (yv := qv2) rfl rfl rfl E7.out) ?_)
    | fail)
  go_ret
  obtain ⟨_, g', p', r1, r2, r3⟩ := FIN.out
  exact ⟨rfl, g', p', fun j hj => r1 j (Nat.lt_of_lt_of_le hj HBX.out.size), Tch.trans (tch_below HBX.out) r2, r3⟩
theorem step_move_no {B x t d m : Nat} {p : Pl} {g : Nat → Nat} {w : World} (h : PX B x t d m p g w) (hB : B ≤ w.heap.size) (hm : m + 1 ≤ 1300000000000) (o : OpV) (ok : o.ok) (hk : o.kind = 1) (hc : mC p.f o.id o.under ≠ 0) : Calls Try.prog 12 #[.pointer (some ⟨x, 0, none⟩), .agg o.c.toArray] w (SPost B x t d m g w) := by
  have HE := hidMk h.ln.eq
  have HNL := hidMk (show p.NL.length ≤ 1300000000000 by have := h.mn; omega)
  have HPL := hidMk (show p.PL.length ≤ 1300000000000 by have := h.mp; omega)
  have HB0 := hidMk hB
  have HM := hidMk hm
  have HC := hidMk hc
  obtain ⟨c, hcc⟩ : ∃ c, mC p.f o.id o.under = c := ⟨_, rfl⟩
  have HCC := hidMk hcc
  have hc0 : ¬ c = 0 := by rw [← hcc]; exact hc
  clear hcc hc hB hm
  go_enter Try.func12, Try.ntmps12
  go_upto_region 3 with fail
  obtain ⟨hbo, bx, zx⟩ := op_box w o
  generalize w.alloc (.cells o.c.toArray 39) = W at *
  have lbo : w.heap.size < W.heap.size := by omega
  have ck : W.cell? ⟨w.heap.size, 0, none⟩ = some (.int .i64 o.kind) := op_range hbo 0 _ rfl
  clear zx
  obtain ⟨bo, hbb⟩ : ∃ bo, w.heap.size = bo := ⟨_, rfl⟩
  have HBB := hidMk hbb
  rw [hbb] at hbo ck lbo ⊢
  clear hbb
  rw [hk] at ck
  have hW := h.below bx
  have HB1 := hidMk (show B ≤ W.heap.size from Nat.le_trans HB0.out bx.size)
  clear hk
  go_upto_region 9 with fail
  clear ck
  have bd : Below W.heap.size W W.drew := (Below.refl _ _).drew
  have hS : ∀ V, Below W.heap.size W V → (fun V => V.heap[x]? = some (.cells #[.pointer (some ⟨t, 0, none⟩), .pointer (some ⟨d, 0, none⟩), p.bv, p.sv] 32 (0, 0)) ∧ V.heap[bo]? = some (.cells o.c.toArray 39 (0, 0))) V := fun V b => ⟨by rw [← h.x, ← h.t, ← h.d]; exact (hW.below b).ps.cell, (b.block _ lbo).trans hbo⟩
  refine step9 (fun V => V.heap[x]? = some (.cells #[.pointer (some ⟨t, 0, none⟩), .pointer (some ⟨d, 0, none⟩), p.bv, p.sv] 32 (0, 0)) ∧ V.heap[bo]? = some (.cells o.c.toArray 39 (0, 0))) (fun tv v V => tv = .pointer none ∧ v = .int .i64 c ∧ Below W.heap.size W V) x bo (.pointer (some ⟨t, 0, none⟩)) o.id.v o.under.v (.string o.key) _ W _ rfl rfl rfl (hS _ bd) ?_ ?_ ?_ ?_ ?_ ?_
  · have hcall := ps_tree_no (hW.below bd) HC.out (move_all (hW.below bd).ps.own HB1.out o.id o.under o.key ok.id ok.under)
    rw [h.t, HCC.out] at hcall
    refine hcall.mono ?_
    rintro e w2 ⟨rfl, b2⟩
    exact ⟨_, _, rfl, hS _ (bd.trans (b2.mono bd.size)), rfl, rfl, bd.trans (b2.mono bd.size)⟩
  · exact fun V hV => load_tp (cell_p0 hV.1)
  · exact fun V hV => op_id ok (op_range hV.2)
  · exact fun V hV => op_under ok (op_range hV.2)
  · exact fun V hV => op_key ok (op_range hV.2)
  rintro tv v a' w2 ⟨rfl, rfl, b2⟩ ha
  subst ha
  simp only [Act.put, List.setIfInBounds_toArray, List.set_cons_zero, List.set_cons_succ]
  go_upto_region 10 with fail
  have bd2 : Below W.heap.size W w2.drew := b2.drew
  refine step10 (fun V => V.heap[x]? = some (.cells #[.pointer (some ⟨t, 0, none⟩), .pointer (some ⟨d, 0, none⟩), p.bv, p.sv] 32 (0, 0)) ∧ V.heap[bo]? = some (.cells o.c.toArray 39 (0, 0))) (fun v V => v = .int .i64 c ∧ Below W.heap.size W V) x bo (.pointer (some ⟨d, 0, none⟩)) o.id.v o.under.v (.string o.key) _ w2 _ rfl rfl rfl (hS _ bd2) ?_ ?_ ?_ ?_ ?_ ?_
  · have hr := (hW.below bd2).ps.ref
    have hcall := ps_ref_no (c := mC (lookN p.NL) o.id o.under) (by rw [HE.out]; exact HC.out) (rmove_all hr (Nat.le_trans HB1.out bd2.size) HNL.out HPL.out o.id ok.id o.under o.key ok.under (by rw [HE.out]; exact h.ps.own.ft))
    rw [h.d, HE.out, HCC.out] at hcall
    refine hcall.mono ?_
    rintro e w3 ⟨rfl, b3⟩
    exact ⟨_, rfl, hS _ (bd2.trans (b3.mono bd2.size)), rfl, bd2.trans (b3.mono bd2.size)⟩
  · exact fun V hV => load_dp (cell_p1 hV.1)
  · exact fun V hV => op_id ok (op_range hV.2)
  · exact fun V hV => op_under ok (op_range hV.2)
  · exact fun V hV => op_key ok (op_range hV.2)
  rintro v a' w3 ⟨rfl, b3⟩ ha
  subst ha
  simp only [Act.put, List.setIfInBounds_toArray, List.set_cons_zero, List.set_cons_succ]
  have b03 := bx.trans (b3.mono bx.size)
  obtain ⟨lv, qv, lv2, qv2, w4, w5, w6, w7, w8, w9, e1, e2, e3, e4, e5, e6, e7, fin⟩ := lists_no (h.below b03) (Nat.le_trans HB0.out b03.size) HM.out
  have E0 := hidMk (load_bs (cell_p2 (hS _ b3).1))
  have E1 := hidMk e1
  have E2 := hidMk e2
  have E3 := hidMk e3
  have E4 := hidMk e4
  have E5 := hidMk e5
  have E6 := hidMk e6
  have E7 := hidMk e7
  have FIN := hidMk fin
  have B03 := hidMk b03
  clear e1 e2 e3 e4 e5 e6 e7 fin b03 hS b3 b2 bd bd2
  generalize p.bv = bv at *
  generalize p.sv = sv at *
  go_wp2_with (first
    | (refine wpList_val rfl (exec_load (t := 29) (u := .pointer (some ⟨x, 2, none⟩)) rfl rfl E0.out) ?_)
    | (refine wpList_run rfl (exec_buildSlice (t := 29) (n := 1) (xv := .pointer none) (v := lv) rfl rfl E1.out) ?_)
    | (refine wpList_run rfl (exec_append (ts := #[29, 29]) (xv := bv) (yv := lv) (v := qv) rfl rfl rfl E2.out) ?_)
    | (refine wpList_skip rfl rfl (exec_store (t := 29) (xv := .pointer (some ⟨x, 2, none⟩)) (yv := qv) rfl rfl rfl E3.out) ?_)
    | (refine wpList_val rfl (exec_load (t := 30) (u := .pointer (some ⟨x, 3, none⟩)) rfl rfl E4.out) ?_)
    | (refine wpList_run rfl (exec_buildSlice (t := 30) (n := 1) (xv := .int .i64 0) (v := lv2) rfl rfl E5.out) ?_)
    | (refine wpList_run rfl (exec_append (ts := #[30, 30]) (xv := sv) (yv := lv2) (v := qv2) rfl rfl rfl E6.out) ?_)
    | (refine wpList_skip rfl rfl (exec_store (t := 30) (xv := .pointer (some ⟨x, 3, none⟩)) (yv := qv2) rfl rfl rfl E7.out) ?_)
    | fail)
  go_ret
  obtain ⟨_, g', p', f1, f2, f3⟩ := FIN.out
  exact ⟨rfl, g', p', fun j hj => f1 j (Nat.lt_of_lt_of_le hj B03.out.size), Tch.trans (tch_below B03.out) f2, f3⟩
theorem step_move_ok {B x t d m : Nat} {p : Pl} {g : Nat → Nat} {w : World} (h : PX B x t d m p g w) (hB : B ≤ w.heap.size) (hm : m + 1 ≤ 1300000000000) (o : OpV) (ok : o.ok) (hk : o.kind = 1) (hc : mC p.f o.id o.under = 0) : Calls Try.prog 12 #[.pointer (some ⟨x, 0, none⟩), .agg o.c.toArray] w (SPost B x t d m g w) := by
  obtain rfl := h.d
  have HE := hidMk h.ln.eq
  have HNL := hidMk (show p.NL.length ≤ 1300000000000 by have := h.mn; omega)
  have HPL := hidMk (show p.PL.length ≤ 1300000000000 by have := h.mp; omega)
  have HB0 := hidMk hB
  have HM := hidMk hm
  have HC := hidMk hc
  clear hc hB hm
  go_enter Try.func12, Try.ntmps12
  go_upto_region 3 with fail
  obtain ⟨hbo, bx, zx⟩ := op_box w o
  generalize w.alloc (.cells o.c.toArray 39) = W at *
  have lbo : w.heap.size < W.heap.size := by omega
  have ck : W.cell? ⟨w.heap.size, 0, none⟩ = some (.int .i64 o.kind) := op_range hbo 0 _ rfl
  clear zx
  obtain ⟨bo, hbb⟩ : ∃ bo, w.heap.size = bo := ⟨_, rfl⟩
  have HBB := hidMk hbb
  rw [hbb] at hbo ck lbo ⊢
  clear hbb
  rw [hk] at ck
  have hW := h.below bx
  have HB1 := hidMk (show B ≤ W.heap.size from Nat.le_trans HB0.out bx.size)
  clear hk
  go_upto_region 9 with fail
  clear ck
  have bd : Below W.heap.size W W.drew := (Below.refl _ _).drew
  have hd1 := hW.below bd
  have hS0 : (fun V => V.heap[x]? = some (.cells #[.pointer (some ⟨t, 0, none⟩), .pointer (some ⟨p.d, 0, none⟩), p.bv, p.sv] 32 (0, 0)) ∧ V.heap[bo]? = some (.cells o.c.toArray 39 (0, 0))) W.drew := ⟨by rw [← h.x, ← h.t]; exact hd1.ps.cell, hbo⟩
  have gbo : g bo = 0 := by rw [← HBB.out]; exact h.ps.gz _ (Nat.le_refl _)
  have nbo : ¬ Mut g bo := by unfold Mut; rw [gbo]; decide
  have hpx := h.x
  refine step9 (fun V => V.heap[x]? = some (.cells #[.pointer (some ⟨t, 0, none⟩), .pointer (some ⟨p.d, 0, none⟩), p.bv, p.sv] 32 (0, 0)) ∧ V.heap[bo]? = some (.cells o.c.toArray 39 (0, 0))) (fun tv v V => ∃ g' s' r, tv = .pointer (some ⟨r.bk, 0, none⟩) ∧ v = .int .i64 0 ∧ s'.t = t ∧ r.k = o.id ∧ r.o = p.f o.id ∧ W.heap.size ≤ r.bk ∧ Ext W g g' ∧ Tch (Mut g) W V ∧ PS B g' V { p with s := s', H := r :: p.H, f := upd p.f o.id (some ⟨o.under, o.key, false⟩) }) x bo (.pointer (some ⟨t, 0, none⟩)) o.id.v o.under.v (.string o.key) _ W _ rfl rfl rfl hS0 ?_ ?_ ?_ ?_ ?_ ?_
  · have hcall := ps_tree_ok hd1 HB1.out HC.out (move_all (hd1).ps.own HB1.out o.id o.under o.key ok.id ok.under)
    rw [h.t] at hcall
    refine hcall.mono ?_
    rintro e w2 ⟨g', s', r, rfl, q1, q2, q3, q4, q5, q6, q7⟩
    refine ⟨_, _, rfl, ⟨?_, (q6.block bo (show bo < W.drew.heap.size from lbo) nbo).trans hbo⟩, g', s', r, rfl, rfl, q1, q2, q3, q4, q5, q6.dr, q7⟩
    have := q7.cell
    simp only at this
    rwa [hpx, q1] at this
  · exact fun V hV => load_tp (cell_p0 hV.1)
  · exact fun V hV => op_id ok (op_range hV.2)
  · exact fun V hV => op_under ok (op_range hV.2)
  · exact fun V hV => op_key ok (op_range hV.2)
  rintro tv v a' w2 ⟨g2, s', r, rfl, rfl, q1, q2, q3, q4, q5, q6, q7⟩ ha
  subst ha
  simp only [Act.put, List.setIfInBounds_toArray, List.set_cons_zero, List.set_cons_succ]
  go_upto_region 10 with fail
  have hd2 : PS B g2 w2.drew { p with s := s', H := r :: p.H, f := upd p.f o.id (some ⟨o.under, o.key, false⟩) } := q7.below (Below.refl w2.heap.size w2).drew
  have hbo2 : w2.heap[bo]? = some (.cells o.c.toArray 39 (0, 0)) := (q6.block bo lbo nbo).trans hbo
  have lbo2 : bo < w2.heap.size := Nat.lt_of_lt_of_le lbo q6.size
  have nbo2 : ¬ Mut g2 bo := by unfold Mut; rw [q5 bo lbo, gbo]; decide
  have HB2 := hidMk (show B ≤ w2.heap.size from Nat.le_trans HB1.out q6.size)
  have cell2 : w2.drew.heap[x]? = some (.cells #[.pointer (some ⟨t, 0, none⟩), .pointer (some ⟨p.d, 0, none⟩), p.bv, p.sv] 32 (0, 0)) := by
    have := hd2.cell
    simp only at this
    rwa [hpx, q1] at this
  refine step10 (fun V => V.heap[x]? = some (.cells #[.pointer (some ⟨t, 0, none⟩), .pointer (some ⟨p.d, 0, none⟩), p.bv, p.sv] 32 (0, 0)) ∧ V.heap[bo]? = some (.cells o.c.toArray 39 (0, 0))) (fun v V => v = .int .i64 0 ∧ ∃ g' vn vp us, Ext w2 g2 g' ∧ Tch (Mut g2) w2 V ∧ PS B g' V { p with s := s', H := r :: p.H, f := upd p.f o.id (some ⟨o.under, o.key, false⟩), NL := M.put p.NL o.id ⟨o.under, o.key, false⟩, PL := p.PL ++ [p.NL], vn := vn, vp := vp, us := us }) x bo (.pointer (some ⟨p.d, 0, none⟩)) o.id.v o.under.v (.string o.key) _ w2 _ rfl rfl rfl ⟨cell2, hbo2⟩ ?_ ?_ ?_ ?_ ?_ ?_
  · have hr := hd2.ref
    have hcall := ps_ref_ok hd2 HB2.out (c := mC (lookN p.NL) o.id o.under) (by rw [HE.out]; exact HC.out) (rmove_all hr (HB2.out) HNL.out HPL.out o.id ok.id o.under o.key ok.under (by show Forest (lookN p.NL); rw [HE.out]; exact h.ps.own.ft))
    refine hcall.mono ?_
    rintro e w3 ⟨rfl, g3, vn, vp, us, f1, f2, f3⟩
    refine ⟨_, rfl, ⟨?_, (f2.block bo lbo2 nbo2).trans hbo2⟩, rfl, g3, vn, vp, us, f1, f2.dr, f3⟩
    have := f3.cell
    simp only at this
    rwa [hpx, q1] at this
  · exact fun V hV => load_dp (cell_p1 hV.1)
  · exact fun V hV => op_id ok (op_range hV.2)
  · exact fun V hV => op_under ok (op_range hV.2)
  · exact fun V hV => op_key ok (op_range hV.2)
  rintro v a' w3 ⟨rfl, g3, vn, vp, us, f1, f2, f3⟩ ha
  subst ha
  simp only [Act.put, List.setIfInBounds_toArray, List.set_cons_zero, List.set_cons_succ]
  have cell3 : w3.heap[x]? = some (.cells #[.pointer (some ⟨t, 0, none⟩), .pointer (some ⟨p.d, 0, none⟩), p.bv, p.sv] 32 (0, 0)) := by
    have := f3.cell
    simp only at this
    rwa [hpx, q1] at this
  have HS := hidMk (rsteps_any f3.ref)
  simp only [List.length_append, List.length_cons, List.length_nil, Nat.zero_add] at HS
  obtain ⟨N1, hN1⟩ : ∃ N1 : Int, ((p.PL.length + 1 : Nat) : Int) = N1 := ⟨_, rfl⟩
  rw [hN1] at HS
  have HN1 := hidMk hN1
  clear hN1
  have HFIN := hidMk (fun (W4 : World) (b4 : Below w3.heap.size w3 W4) => lists_ok hW (Nat.le_trans HB2.out (Nat.le_trans f2.size b4.size)) HM.out q1 q2 q3 q4 (q5.trans f1 q6.size) (Tch.trans (mut_ext q5 q6 f2) (tch_below b4)) (f3.below b4))
  have HC3 := hidMk (fun (V : World) (b : Below w3.heap.size w3 V) => (b.block x (Array.getElem?_eq_some_iff.1 cell3).1).trans cell3)
  have HL1 := hidMk (load_dp (cell_p1 cell3))
  have HBX := hidMk bx
  clear cell3 cell2 f1 f2 f3 hd2 hbo2 lbo2 nbo2 nbo gbo q2 q3 q4 q5 q6 q7 hd1 hS0 bd hbo lbo hpx bx
  go_upto_region 19 with (first
    | (refine wpList_val rfl (exec_load (t := 27) (u := .pointer (some ⟨x, 1, none⟩)) rfl rfl HL1.out) ?_)
    | (go_at_call 33; refine HS.out.mono ?_; rintro e w4 ⟨rfl, b4⟩; clear HS)
    | fail)
  obtain ⟨lv, qv, lv2, qv2, w5, w6, w7, w8, w9, w10, e1, e2, e3, e4, e5, e6, e7, fin⟩ := HFIN.out w4 b4
  rw [HN1.out] at e5
  have E0 := hidMk (load_bs (cell_p2 (HC3.out _ b4)))
  have E1 := hidMk e1
  have E2 := hidMk e2
  have E3 := hidMk e3
  have E4 := hidMk e4
  have E5 := hidMk e5
  have E6 := hidMk e6
  have E7 := hidMk e7
  have FIN := hidMk fin
  clear e1 e2 e3 e4 e5 e6 e7 fin HFIN HL1 b4
  generalize p.bv = bv at *
  generalize p.sv = sv at *
  go_wp2_with (first
    | (refine wpList_val rfl (exec_load (t := 29) (u := .pointer (some ⟨x, 2, none⟩)) rfl rfl E0.out) ?_)
    | (refine wpList_run rfl (exec_buildSlice (t := 29) (n := 1) (xv := .pointer (some ⟨r.bk, 0, none⟩)) (v := lv) rfl rfl E1.out) ?_)
    | (refine wpList_run rfl (exec_append (ts := #[29, 29]) (xv := bv) (yv := lv) (v := qv) rfl rfl rfl E2.out) ?_)
    | (refine wpList_skip rfl rfl (exec_store (t := 29) (xv := .pointer (some ⟨x, 2, none⟩)) (yv := qv) rfl rfl rfl E3.out) ?_)
    | (refine wpList_val rfl (exec_load (t := 30) (u := .pointer (some ⟨x, 3, none⟩)) rfl rfl E4.out) ?_)
    | (refine wpList_run rfl (exec_buildSlice (t := 30) (n := 1) (xv := .int .i64 N1) (v := lv2) rfl rfl E5.out) ?_)
    | (refine wpList_run rfl (exec_append (ts := #[30, 30]) (xv := sv) (yv := lv2) (v := qv2) rfl rfl rfl E6.out) ?_)
    | (refine wpList_skip rfl rfl (exec_store (t := 30) (xv := .pointer (some ⟨x, 3, none⟩)) (yv := qv2) rfl rfl rfl E7.out) ?_)
    | fail)
  go_ret
  obtain ⟨_, g', p', r1, r2, r3⟩ := FIN.out
  exact ⟨rfl, g', p', fun j hj => r1 j (Nat.lt_of_lt_of_le hj HBX.out.size), Tch.trans (tch_below HBX.out) r2, r3⟩
theorem step_prune_no {B x t d m : Nat} {p : Pl} {g : Nat → Nat} {w : World} (h : PX B x t d m p g w) (hB : B ≤ w.heap.size) (hm : m + 1 ≤ 1300000000000) (o : OpV) (ok : o.ok) (hk : o.kind = 2) (hc : pC p.f o.id ≠ 0) : Calls Try.prog 12 #[.pointer (some ⟨x, 0, none⟩), .agg o.c.toArray] w (SPost B x t d m g w) := by
  have HE := hidMk h.ln.eq
  have HNL := hidMk (show p.NL.length ≤ 1300000000000 by have := h.mn; omega)
  have HPL := hidMk (show p.PL.length ≤ 1300000000000 by have := h.mp; omega)
  have HB0 := hidMk hB
  have HM := hidMk hm
  have HC := hidMk hc
  obtain ⟨c, hcc⟩ : ∃ c, pC p.f o.id = c := ⟨_, rfl⟩
  have HCC := hidMk hcc
  have hc0 : ¬ c = 0 := by rw [← hcc]; exact hc
  clear hcc hc hB hm
  go_enter Try.func12, Try.ntmps12
  go_upto_region 3 with fail
  obtain ⟨hbo, bx, zx⟩ := op_box w o
  generalize w.alloc (.cells o.c.toArray 39) = W at *
  have lbo : w.heap.size < W.heap.size := by omega
  have ck : W.cell? ⟨w.heap.size, 0, none⟩ = some (.int .i64 o.kind) := op_range hbo 0 _ rfl
  clear zx
  obtain ⟨bo, hbb⟩ : ∃ bo, w.heap.size = bo := ⟨_, rfl⟩
  have HBB := hidMk hbb
  rw [hbb] at hbo ck lbo ⊢
  clear hbb
  rw [hk] at ck
  have hW := h.below bx
  have HB1 := hidMk (show B ≤ W.heap.size from Nat.le_trans HB0.out bx.size)
  clear hk
  go_upto_region 12 with fail
  clear ck
  have bd : Below W.heap.size W W.drew := (Below.refl _ _).drew
  have hS : ∀ V, Below W.heap.size W V → (fun V => V.heap[x]? = some (.cells #[.pointer (some ⟨t, 0, none⟩), .pointer (some ⟨d, 0, none⟩), p.bv, p.sv] 32 (0, 0)) ∧ V.heap[bo]? = some (.cells o.c.toArray 39 (0, 0))) V := fun V b => ⟨by rw [← h.x, ← h.t, ← h.d]; exact (hW.below b).ps.cell, (b.block _ lbo).trans hbo⟩
  refine step12 (fun V => V.heap[x]? = some (.cells #[.pointer (some ⟨t, 0, none⟩), .pointer (some ⟨d, 0, none⟩), p.bv, p.sv] 32 (0, 0)) ∧ V.heap[bo]? = some (.cells o.c.toArray 39 (0, 0))) (fun tv v V => tv = .pointer none ∧ v = .int .i64 c ∧ Below W.heap.size W V) x bo (.pointer (some ⟨t, 0, none⟩)) o.id.v _ W _ rfl rfl rfl (hS _ bd) ?_ ?_ ?_ ?_
  · have hcall := ps_tree_no (hW.below bd) HC.out (prune_all (hW.below bd).ps.own HB1.out o.id ok.id)
    rw [h.t, HCC.out] at hcall
    refine hcall.mono ?_
    rintro e w2 ⟨rfl, b2⟩
    exact ⟨_, _, rfl, hS _ (bd.trans (b2.mono bd.size)), rfl, rfl, bd.trans (b2.mono bd.size)⟩
  · exact fun V hV => load_tp (cell_p0 hV.1)
  · exact fun V hV => op_id ok (op_range hV.2)
  rintro tv v a' w2 ⟨rfl, rfl, b2⟩ ha
  subst ha
  simp only [Act.put, List.setIfInBounds_toArray, List.set_cons_zero, List.set_cons_succ]
  go_upto_region 13 with fail
  have bd2 : Below W.heap.size W w2.drew := b2.drew
  refine step13 (fun V => V.heap[x]? = some (.cells #[.pointer (some ⟨t, 0, none⟩), .pointer (some ⟨d, 0, none⟩), p.bv, p.sv] 32 (0, 0)) ∧ V.heap[bo]? = some (.cells o.c.toArray 39 (0, 0))) (fun v V => v = .int .i64 c ∧ Below W.heap.size W V) x bo (.pointer (some ⟨d, 0, none⟩)) o.id.v _ w2 _ rfl rfl rfl (hS _ bd2) ?_ ?_ ?_ ?_
  · have hr := (hW.below bd2).ps.ref
    have hcall := ps_ref_no (c := pC (lookN p.NL) o.id) (by rw [HE.out]; exact HC.out) (rprune_all hr (Nat.le_trans HB1.out bd2.size) HNL.out HPL.out o.id ok.id)
    rw [h.d, HE.out, HCC.out] at hcall
    refine hcall.mono ?_
    rintro e w3 ⟨rfl, b3⟩
    exact ⟨_, rfl, hS _ (bd2.trans (b3.mono bd2.size)), rfl, bd2.trans (b3.mono bd2.size)⟩
  · exact fun V hV => load_dp (cell_p1 hV.1)
  · exact fun V hV => op_id ok (op_range hV.2)
  rintro v a' w3 ⟨rfl, b3⟩ ha
  subst ha
  simp only [Act.put, List.setIfInBounds_toArray, List.set_cons_zero, List.set_cons_succ]
  have b03 := bx.trans (b3.mono bx.size)
  obtain ⟨lv, qv, lv2, qv2, w4, w5, w6, w7, w8, w9, e1, e2, e3, e4, e5, e6, e7, fin⟩ := lists_no (h.below b03) (Nat.le_trans HB0.out b03.size) HM.out
  have E0 := hidMk (load_bs (cell_p2 (hS _ b3).1))
  have E1 := hidMk e1
  have E2 := hidMk e2
  have E3 := hidMk e3
  have E4 := hidMk e4
  have E5 := hidMk e5
  have E6 := hidMk e6
  have E7 := hidMk e7
  have FIN := hidMk fin
  have B03 := hidMk b03
  clear e1 e2 e3 e4 e5 e6 e7 fin b03 hS b3 b2 bd bd2
  generalize p.bv = bv at *
  generalize p.sv = sv at *
  go_wp2_with (first
    | (refine wpList_val rfl (exec_load (t := 29) (u := .pointer (some ⟨x, 2, none⟩)) rfl rfl E0.out) ?_)
    | (refine wpList_run rfl (exec_buildSlice (t := 29) (n := 1) (xv := .pointer none) (v := lv) rfl rfl E1.out) ?_)
    | (refine wpList_run rfl (exec_append (ts := #[29, 29]) (xv := bv) (yv := lv) (v := qv) rfl rfl rfl E2.out) ?_)
    | (refine wpList_skip rfl rfl (exec_store (t := 29) (xv := .pointer (some ⟨x, 2, none⟩)) (yv := qv) rfl rfl rfl E3.out) ?_)
    | (refine wpList_val rfl (exec_load (t := 30) (u := .pointer (some ⟨x, 3, none⟩)) rfl rfl E4.out) ?_)
    | (refine wpList_run rfl (exec_buildSlice (t := 30) (n := 1) (xv := .int .i64 0) (v := lv2) rfl rfl E5.out) ?_)
    | (refine wpList_run rfl (exec_append (ts := #[30, 30]) (xv := sv) (yv := lv2) (v := qv2) rfl rfl rfl E6.out) ?_)
    | (refine wpList_skip rfl rfl (exec_store (t := 30) (xv := .pointer (some ⟨x, 3, none⟩)) (yv := qv2) rfl rfl rfl E7.out) ?_)
    | fail)
  go_ret
  obtain ⟨_, g', p', f1, f2, f3⟩ := FIN.out
  exact ⟨rfl, g', p', fun j hj => f1 j (Nat.lt_of_lt_of_le hj B03.out.size), Tch.trans (tch_below B03.out) f2, f3⟩
theorem step_prune_ok {B x t d m : Nat} {p : Pl} {g : Nat → Nat} {w : World} (h : PX B x t d m p g w) (hB : B ≤ w.heap.size) (hm : m + 1 ≤ 1300000000000) (o : OpV) (ok : o.ok) (hk : o.kind = 2) (hc : pC p.f o.id = 0) : Calls Try.prog 12 #[.pointer (some ⟨x, 0, none⟩), .agg o.c.toArray] w (SPost B x t d m g w) := by
  obtain rfl := h.d
  have HE := hidMk h.ln.eq
  have HNL := hidMk (show p.NL.length ≤ 1300000000000 by have := h.mn; omega)
  have HPL := hidMk (show p.PL.length ≤ 1300000000000 by have := h.mp; omega)
  have HB0 := hidMk hB
  have HM := hidMk hm
  have HC := hidMk hc
  clear hc hB hm
  go_enter Try.func12, Try.ntmps12
  go_upto_region 3 with fail
  obtain ⟨hbo, bx, zx⟩ := op_box w o
  generalize w.alloc (.cells o.c.toArray 39) = W at *
  have lbo : w.heap.size < W.heap.size := by omega
  have ck : W.cell? ⟨w.heap.size, 0, none⟩ = some (.int .i64 o.kind) := op_range hbo 0 _ rfl
  clear zx
  obtain ⟨bo, hbb⟩ : ∃ bo, w.heap.size = bo := ⟨_, rfl⟩
  have HBB := hidMk hbb
  rw [hbb] at hbo ck lbo ⊢
  clear hbb
  rw [hk] at ck
  have hW := h.below bx
  have HB1 := hidMk (show B ≤ W.heap.size from Nat.le_trans HB0.out bx.size)
  clear hk
  go_upto_region 12 with fail
  clear ck
  have bd : Below W.heap.size W W.drew := (Below.refl _ _).drew
  have hd1 := hW.below bd
  have hS0 : (fun V => V.heap[x]? = some (.cells #[.pointer (some ⟨t, 0, none⟩), .pointer (some ⟨p.d, 0, none⟩), p.bv, p.sv] 32 (0, 0)) ∧ V.heap[bo]? = some (.cells o.c.toArray 39 (0, 0))) W.drew := ⟨by rw [← h.x, ← h.t]; exact hd1.ps.cell, hbo⟩
  have gbo : g bo = 0 := by rw [← HBB.out]; exact h.ps.gz _ (Nat.le_refl _)
  have nbo : ¬ Mut g bo := by unfold Mut; rw [gbo]; decide
  have hpx := h.x
  refine step12 (fun V => V.heap[x]? = some (.cells #[.pointer (some ⟨t, 0, none⟩), .pointer (some ⟨p.d, 0, none⟩), p.bv, p.sv] 32 (0, 0)) ∧ V.heap[bo]? = some (.cells o.c.toArray 39 (0, 0))) (fun tv v V => ∃ g' s' r, tv = .pointer (some ⟨r.bk, 0, none⟩) ∧ v = .int .i64 0 ∧ s'.t = t ∧ r.k = o.id ∧ r.o = p.f o.id ∧ W.heap.size ≤ r.bk ∧ Ext W g g' ∧ Tch (Mut g) W V ∧ PS B g' V { p with s := s', H := r :: p.H, f := upd p.f o.id (some ⟨zId, ⟨#[]⟩, true⟩) }) x bo (.pointer (some ⟨t, 0, none⟩)) o.id.v _ W _ rfl rfl rfl hS0 ?_ ?_ ?_ ?_
  · have hcall := ps_tree_ok hd1 HB1.out HC.out (prune_all (hd1).ps.own HB1.out o.id ok.id)
    rw [h.t] at hcall
    refine hcall.mono ?_
    rintro e w2 ⟨g', s', r, rfl, q1, q2, q3, q4, q5, q6, q7⟩
    refine ⟨_, _, rfl, ⟨?_, (q6.block bo (show bo < W.drew.heap.size from lbo) nbo).trans hbo⟩, g', s', r, rfl, rfl, q1, q2, q3, q4, q5, q6.dr, q7⟩
    have := q7.cell
    simp only at this
    rwa [hpx, q1] at this
  · exact fun V hV => load_tp (cell_p0 hV.1)
  · exact fun V hV => op_id ok (op_range hV.2)
  rintro tv v a' w2 ⟨g2, s', r, rfl, rfl, q1, q2, q3, q4, q5, q6, q7⟩ ha
  subst ha
  simp only [Act.put, List.setIfInBounds_toArray, List.set_cons_zero, List.set_cons_succ]
  go_upto_region 13 with fail
  have hd2 : PS B g2 w2.drew { p with s := s', H := r :: p.H, f := upd p.f o.id (some ⟨zId, ⟨#[]⟩, true⟩) } := q7.below (Below.refl w2.heap.size w2).drew
  have hbo2 : w2.heap[bo]? = some (.cells o.c.toArray 39 (0, 0)) := (q6.block bo lbo nbo).trans hbo
  have lbo2 : bo < w2.heap.size := Nat.lt_of_lt_of_le lbo q6.size
  have nbo2 : ¬ Mut g2 bo := by unfold Mut; rw [q5 bo lbo, gbo]; decide
  have HB2 := hidMk (show B ≤ w2.heap.size from Nat.le_trans HB1.out q6.size)
  have cell2 : w2.drew.heap[x]? = some (.cells #[.pointer (some ⟨t, 0, none⟩), .pointer (some ⟨p.d, 0, none⟩), p.bv, p.sv] 32 (0, 0)) := by
    have := hd2.cell
    simp only at this
    rwa [hpx, q1] at this
  refine step13 (fun V => V.heap[x]? = some (.cells #[.pointer (some ⟨t, 0, none⟩), .pointer (some ⟨p.d, 0, none⟩), p.bv, p.sv] 32 (0, 0)) ∧ V.heap[bo]? = some (.cells o.c.toArray 39 (0, 0))) (fun v V => v = .int .i64 0 ∧ ∃ g' vn vp us, Ext w2 g2 g' ∧ Tch (Mut g2) w2 V ∧ PS B g' V { p with s := s', H := r :: p.H, f := upd p.f o.id (some ⟨zId, ⟨#[]⟩, true⟩), NL := M.put p.NL o.id ⟨zId, ⟨#[]⟩, true⟩, PL := p.PL ++ [p.NL], vn := vn, vp := vp, us := us }) x bo (.pointer (some ⟨p.d, 0, none⟩)) o.id.v _ w2 _ rfl rfl rfl ⟨cell2, hbo2⟩ ?_ ?_ ?_ ?_
  · have hr := hd2.ref
    have hcall := ps_ref_ok hd2 HB2.out (c := pC (lookN p.NL) o.id) (by rw [HE.out]; exact HC.out) (rprune_all hr (HB2.out) HNL.out HPL.out o.id ok.id)
    refine hcall.mono ?_
    rintro e w3 ⟨rfl, g3, vn, vp, us, f1, f2, f3⟩
    refine ⟨_, rfl, ⟨?_, (f2.block bo lbo2 nbo2).trans hbo2⟩, rfl, g3, vn, vp, us, f1, f2.dr, f3⟩
    have := f3.cell
    simp only at this
    rwa [hpx, q1] at this
  · exact fun V hV => load_dp (cell_p1 hV.1)
  · exact fun V hV => op_id ok (op_range hV.2)
  rintro v a' w3 ⟨rfl, g3, vn, vp, us, f1, f2, f3⟩ ha
  subst ha
  simp only [Act.put, List.setIfInBounds_toArray, List.set_cons_zero, List.set_cons_succ]
  have cell3 : w3.heap[x]? = some (.cells #[.pointer (some ⟨t, 0, none⟩), .pointer (some ⟨p.d, 0, none⟩), p.bv, p.sv] 32 (0, 0)) := by
    have := f3.cell
    simp only at this
    rwa [hpx, q1] at this
  have HS := hidMk (rsteps_any f3.ref)
  simp only [List.length_append, List.length_cons, List.length_nil, Nat.zero_add] at HS
  obtain ⟨N1, hN1⟩ : ∃ N1 : Int, ((p.PL.length + 1 : Nat) : Int) = N1 := ⟨_, rfl⟩
  rw [hN1] at HS
  have HN1 := hidMk hN1
  clear hN1
  have HFIN := hidMk (fun (W4 : World) (b4 : Below w3.heap.size w3 W4) => lists_ok hW (Nat.le_trans HB2.out (Nat.le_trans f2.size b4.size)) HM.out q1 q2 q3 q4 (q5.trans f1 q6.size) (Tch.trans (mut_ext q5 q6 f2) (tch_below b4)) (f3.below b4))
  have HC3 := hidMk (fun (V : World) (b : Below w3.heap.size w3 V) => (b.block x (Array.getElem?_eq_some_iff.1 cell3).1).trans cell3)
  have HL1 := hidMk (load_dp (cell_p1 cell3))
  have HBX := hidMk bx
  clear cell3 cell2 f1 f2 f3 hd2 hbo2 lbo2 nbo2 nbo gbo q2 q3 q4 q5 q6 q7 hd1 hS0 bd hbo lbo hpx bx
  go_upto_region 19 with (first
    | (refine wpList_val rfl (exec_load (t := 27) (u := .pointer (some ⟨x, 1, none⟩)) rfl rfl HL1.out) ?_)
    | (go_at_call 33; refine HS.out.mono ?_; rintro e w4 ⟨rfl, b4⟩; clear HS)
    | fail)
  obtain ⟨lv, qv, lv2, qv2, w5, w6, w7, w8, w9, w10, e1, e2, e3, e4, e5, e6, e7, fin⟩ := HFIN.out w4 b4
  rw [HN1.out] at e5
  have E0 := hidMk (load_bs (cell_p2 (HC3.out _ b4)))
  have E1 := hidMk e1
  have E2 := hidMk e2
  have E3 := hidMk e3
  have E4 := hidMk e4
  have E5 := hidMk e5
  have E6 := hidMk e6
  have E7 := hidMk e7
  have FIN := hidMk fin
  clear e1 e2 e3 e4 e5 e6 e7 fin HFIN HL1 b4
  generalize p.bv = bv at *
  generalize p.sv = sv at *
  go_wp2_with (first
    | (refine wpList_val rfl (exec_load (t := 29) (u := .pointer (some ⟨x, 2, none⟩)) rfl rfl E0.out) ?_)
    | (refine wpList_run rfl (exec_buildSlice (t := 29) (n := 1) (xv := .pointer (some ⟨r.bk, 0, none⟩)) (v := lv) rfl rfl E1.out) ?_)
    | (refine wpList_run rfl (exec_append (ts := #[29, 29]) (xv := bv) (yv := lv) (v := qv) rfl rfl rfl E2.out) ?_)
    | (refine wpList_skip rfl rfl (exec_store (t := 29) (xv := .pointer (some ⟨x, 2, none⟩)) (yv := qv) rfl rfl rfl E3.out) ?_)
    | (refine wpList_val rfl (exec_load (t := 30) (u := .pointer (some ⟨x, 3, none⟩)) rfl rfl E4.out) ?_)
    | (refine wpList_run rfl (exec_buildSlice (t := 30) (n := 1) (xv := .int .i64 N1) (v := lv2) rfl rfl E5.out) ?_)
    | (refine wpList_run rfl (exec_append (ts := #[30, 30]) (xv := sv) (yv := lv2) (v := qv2) rfl rfl rfl E6.out) ?_)
    | (refine wpList_skip rfl rfl (exec_store (t := 30) (xv := .pointer (some ⟨x, 3, none⟩)) (yv := qv2) rfl rfl rfl E7.out) ?_)
    | fail)
  go_ret
  obtain ⟨_, g', p', r1, r2, r3⟩ := FIN.out
  exact ⟨rfl, g', p', fun j hj => r1 j (Nat.lt_of_lt_of_le hj HBX.out.size), Tch.trans (tch_below HBX.out) r2, r3⟩
theorem step_undo {B x t d m : Nat} {p : Pl} {g : Nat → Nat} {w : World} (h : PX B x t d m p g w) (hB : B ≤ w.heap.size) (hm : m + 1 ≤ 1300000000000) (o : OpV) (ok : o.ok) (hk : o.kind = 3) : Calls Try.prog 12 #[.pointer (some ⟨x, 0, none⟩), .agg o.c.toArray] w (SPost B x t d m g w) := by
  have HU := hidMk (fun (V : World) (b : Below w.heap.size w V) => undo_any (h.below b) (Nat.le_trans hB b.size) (by omega) o.back)
  clear hB hm
  go_enter Try.func12, Try.ntmps12
  go_upto_region 3 with fail
  obtain ⟨hbo, bx, zx⟩ := op_box w o
  generalize w.alloc (.cells o.c.toArray 39) = W at *
  have lbo : w.heap.size < W.heap.size := by omega
  have ck : W.cell? ⟨w.heap.size, 0, none⟩ = some (.int .i64 o.kind) := op_range hbo 0 _ rfl
  clear zx
  obtain ⟨bo, hbb⟩ : ∃ bo, w.heap.size = bo := ⟨_, rfl⟩
  have HBB := hidMk hbb
  rw [hbb] at hbo ck lbo ⊢
  clear hbb
  have HLB := hidMk (op_back ok (op_range hbo))
  have BX := hidMk bx
  rw [hk] at ck
  clear hk hbo lbo
  go_upto_region 15 with fail
  clear ck
  go_wp2_with (first
    | (refine wpList_val rfl (exec_load (t := 3) (u := .pointer (some ⟨bo, 0 + 68, none⟩)) rfl rfl HLB.out) ?_)
    | (go_at_call 27; refine (HU.out _ BX.out).mono ?_; rintro e w2 ⟨rfl, g', p', r1, r2, r3, r4⟩)
    | fail)
  go_ret
  exact ⟨rfl, g', p', fun j hj => r1 j (Nat.lt_of_lt_of_le hj BX.out.size), Tch.trans (tch_below BX.out) r2, r3.mono (Nat.le_succ _)⟩
theorem step_other {B x t d m : Nat} {p : Pl} {g : Nat → Nat} {w : World} (h : PX B x t d m p g w) (hB : B ≤ w.heap.size) (hm : m + 1 ≤ 1300000000000) (o : OpV) (ok : o.ok) (h0 : ¬ o.kind = 0) (h1 : ¬ o.kind = 1) (h2 : ¬ o.kind = 2) (h3 : ¬ o.kind = 3) : Calls Try.prog 12 #[.pointer (some ⟨x, 0, none⟩), .agg o.c.toArray] w (SPost B x t d m g w) := by
  go_enter Try.func12, Try.ntmps12
  go_upto_region 3 with fail
  obtain ⟨hbo, bx, zx⟩ := op_box w o
  generalize w.alloc (.cells o.c.toArray 39) = W at *
  have lbo : w.heap.size < W.heap.size := by omega
  have ck : W.cell? ⟨w.heap.size, 0, none⟩ = some (.int .i64 o.kind) := op_range hbo 0 _ rfl
  clear zx
  obtain ⟨bo, hbb⟩ : ∃ bo, w.heap.size = bo := ⟨_, rfl⟩
  have HBB := hidMk hbb
  rw [hbb] at hbo ck lbo ⊢
  clear hbb
  generalize o.kind = kz at *
  have BX := hidMk bx
  clear hbo lbo bx
  go_wp2
  go_ret
  exact ⟨rfl, g, p, Ext.refl _ _, tch_below BX.out, (h.below BX.out).mono (Nat.le_succ _)⟩
theorem play_step {B x t d m : Nat} {p : Pl} {g : Nat → Nat} {w : World} (h : PX B x t d m p g w) (hB : B ≤ w.heap.size) (hm : m + 1 ≤ 1300000000000) (o : OpV) (ok : o.ok) : Calls Try.prog 12 #[.pointer (some ⟨x, 0, none⟩), .agg o.c.toArray] w (SPost B x t d m g w) := by
  by_cases h0 : o.kind = 0
  · by_cases hc : gC p.f o.id o.under = 0
    · exact step_grow_ok h hB hm o ok h0 hc
    · exact step_grow_no h hB hm o ok h0 hc
  · by_cases h1 : o.kind = 1
    · by_cases hc : mC p.f o.id o.under = 0
      · exact step_move_ok h hB hm o ok h1 hc
      · exact step_move_no h hB hm o ok h1 hc
    · by_cases h2 : o.kind = 2
      · by_cases hc : pC p.f o.id = 0
        · exact step_prune_ok h hB hm o ok h2 hc
        · exact step_prune_no h hB hm o ok h2 hc
      · by_cases h3 : o.kind = 3
        · exact step_undo h hB hm o ok h3
        · exact step_other h hB hm o ok h0 h1 h2 h3
end Go.Proofs.Ytoofljkgdjjllaa
namespace Go.Proofs.Ytoofljkgdjjllaa
open Go.RowKit
set_option linter.unusedVariables false
set_option linter.unusedSimpArgs false
theorem szOp : (Try.prog.info? 39).map (·.size) = some 69 := by kernel_rfl
theorem load_op {w : World} {b o : Nat} {x : OpV} (hx : x.ok) (h : w.rangeAt b o x.c) : (Instr.loadAt 39 (.pointer (some ⟨b, o, none⟩))).run Try.prog w = .ok (.agg x.c.toArray) w :=
  run_loadAt_mid (P := Try.prog) w b o 39 x.c _ h Try.underlying39 rfl (by rw [OpV.len hx]; exact szOp)
theorem px_alike {B x t d m : Nat} {p : Pl} {g : Nat → Nat} {w : World} (h : PX B x t d m p g w) (hm : m ≤ 1300000000000) (a : Option Addr) (c : Nat) (I : List IdK) (hI : IdsAt w a I) (oI : ∀ y ∈ I, y.ok) (lI : I.length ≤ 7000000000000) :
    Calls Try.prog 13 #[.pointer (some ⟨t, 0, none⟩), .pointer (some ⟨d, 0, none⟩), .slice a I.length c] w fun e w' => e = .returned (.bool true) ∧ Below w.heap.size w w' := by
  have hr := h.ps.ref.ref
  have hmn := h.mn
  have hD := ref_dom _ _ _ hr
  have hR := tells_ref _ _ _ hr (by rw [h.ln.eq]; exact h.ps.own.ft) (by omega)
  rw [h.ln.eq, h.d] at hR
  rw [h.ln.eq] at hD
  have hT := tells_own h.ps.own hD (by rw [List.length_map]; omega)
  rw [h.t] at hT
  refine alike_any w _ _ p.f _ h.ps.own.ft hD (by rw [List.length_map]; omega) (fun k => ?_) a c I hI oI lI hT hR
  have hE := h.ps.own.eq
  unfold nd
  cases hq : p.f k with
  | none => exact zId_ok
  | some n =>
    rw [← hE] at hq
    obtain ⟨j, _, hj, _⟩ := fPos_some hq
    exact h.ps.own.tree.tr.uok _ (List.mem_of_getElem? hj)
def p0 (s : Tr) (d x : Nat) : Pl := ⟨x, s, [], fun _ => none, d, [], [], .slice none 0 0, .slice none 0 0, [], .slice none 0 0, [], .slice none 0 0, []⟩
open Classical in
noncomputable def g0 (s : Tr) (d x : Nat) (j : Nat) : Nat := if j ∈ s.bl then 1 else if j = d then 3 else if j = x then 4 else 0
theorem px_start {w w1 w2 w3 : World} {s : Tr} {d : Nat} (b1 : Below w.heap.size w w1) (hs : Own w1.heap.size w2 s [] (fun _ => none)) (b2 : Below w1.heap.size w1 w2) (hd : RefP w2.heap.size w3 d [] [] (.slice none 0 0) (.slice none 0 0) []) (b3 : Below w2.heap.size w2 w3) :
    PX w.heap.size w3.heap.size s.t d 0 (p0 s d w3.heap.size) (g0 s d w3.heap.size) (w3.alloc (.cells #[.pointer (some ⟨s.t, 0, none⟩), .pointer (some ⟨d, 0, none⟩), .slice none 0 0, .slice none 0 0] 32)) ∧
    Below w.heap.size w (w3.alloc (.cells #[.pointer (some ⟨s.t, 0, none⟩), .pointer (some ⟨d, 0, none⟩), .slice none 0 0, .slice none 0 0] 32)) := by
  have z1 := b1.size
  have z2 := b2.size
  have z3 := b3.size
  have b4 : Below w3.heap.size w3 (w3.alloc (.cells #[.pointer (some ⟨s.t, 0, none⟩), .pointer (some ⟨d, 0, none⟩), .slice none 0 0, .slice none 0 0] 32)) := (Below.refl _ _).alloc (Nat.le_refl _) _
  have z4 : (w3.alloc (.cells #[.pointer (some ⟨s.t, 0, none⟩), .pointer (some ⟨d, 0, none⟩), .slice none 0 0, .slice none 0 0] 32)).heap.size = w3.heap.size + 1 := by simp
  have hx := heap_alloc_new w3 (.cells #[.pointer (some ⟨s.t, 0, none⟩), .pointer (some ⟨d, 0, none⟩), .slice none 0 0, .slice none 0 0] 32)
  generalize w3.alloc (.cells #[.pointer (some ⟨s.t, 0, none⟩), .pointer (some ⟨d, 0, none⟩), .slice none 0 0, .slice none 0 0] 32) = w4 at *
  have sl : ∀ j ∈ s.bl, w1.heap.size ≤ j ∧ j < w2.heap.size := fun j hj => ⟨hs.ge j hj, hs.tree.tr.lt j hj⟩
  have dl := hd.ge d (Or.inl rfl)
  have hs4 := (hs.below b3).below b4
  have hd4 := hd.below b4
  have G1 : ∀ j ∈ s.bl, g0 s d w3.heap.size j = 1 := fun j hj => by unfold g0; rw [if_pos hj]
  have Gd : g0 s d w3.heap.size d = 3 := by unfold g0; rw [if_neg (fun q => by have := sl d q; omega), if_pos rfl]
  have Gx : g0 s d w3.heap.size w3.heap.size = 4 := by unfold g0; rw [if_neg (fun q => by have := sl _ q; omega), if_neg (by omega), if_pos rfl]
  refine ⟨⟨rfl, rfl, rfl, ⟨⟨hs4.tree, hs4.eq, hs4.ft, fun j hj => by have := sl j hj; omega, by simp [p0]⟩, ⟨hd4.cell, ⟨rfl, Or.inl ⟨rfl, rfl⟩⟩, ⟨rfl, Or.inl ⟨rfl, rfl⟩⟩, rfl, by simp [p0], by show w.heap.size ≤ d; omega, by simp [p0], by simp [p0], by simp [p0], by simp [p0], by simp [p0], by simp [p0]⟩, hx, ⟨rfl, Or.inl ⟨rfl, rfl⟩⟩, ⟨rfl, Or.inl ⟨rfl, rfl⟩⟩, by simp [p0], G1, by simp [p0], ?_, ?_, ?_, ?_⟩, ⟨by funext y; rfl, HM.nil, rfl, by simp [p0], by simp [p0], by simp [p0], ?_⟩, by simp [p0], by simp [p0], by simp [p0], by simp [p0]⟩, b1.trans ((b2.mono z1).trans ((b3.mono (by omega)).trans (b4.mono (by omega))))⟩
  · rintro j (rfl | q | q | ⟨i, u, hu, q⟩)
    · exact Gd
    · cases q
    · cases q
    · simp [p0] at hu
  · rintro j (rfl | q | q)
    · exact Gx
    · cases q
    · cases q
  · intro j hj
    unfold g0
    rw [if_neg (fun q => by have := sl j q; omega), if_neg (by omega), if_neg (by omega)]
  · intro j hj
    unfold g0 at hj
    by_cases q1 : j ∈ s.bl
    · have := sl j q1; omega
    · rw [if_neg q1] at hj
      by_cases q2 : j = d
      · omega
      · rw [if_neg q2] at hj
        by_cases q3 : j = w3.heap.size
        · omega
        · rw [if_neg q3] at hj; exact absurd rfl hj
  · intro n h1 h2
    simp [p0] at h2
    omega
theorem px_below {B : Nat} {g : Nat → Nat} {w0 w w' : World} {x t d m : Nat} {p : Pl} (h : PX w0.heap.size x t d m p g w) (b : Below w0.heap.size w0 w) (tc : Tch (Mut g) w w') : Below w0.heap.size w0 w' :=
  b.trans (tc.below b.size fun j hj => h.ps.gB j (by rcases hj with q | q | q <;> rw [q] <;> decide))
def cls (W : World) (j : Nat) : Nat := match W.heap[j]? with
  | some (.map _ _) => 1
  | some (.cells _ t _) => if t = 82 then 1 else if t = 86 ∨ t = 114 ∨ t = 83 then 3 else if t = 32 ∨ t = 45 ∨ t = 3 then 4 else 0
  | _ => 0
theorem cls_map {W : World} {j : Nat} {es : Array MapEntry} {c : Nat} (h : W.heap[j]? = some (.map es c)) : cls W j = 1 := by unfold cls; rw [h]
theorem cls_cells {W : World} {j t : Nat} {c : Array Value} (h : W.heap[j]? = some (.cells c t (0, 0))) : cls W j = if t = 82 then 1 else if t = 86 ∨ t = 114 ∨ t = 83 then 3 else if t = 32 ∨ t = 45 ∨ t = 3 then 4 else 0 := by unfold cls; rw [h]
theorem tr_cls {W : World} {s : Tr} (h : TrAt W s) {j : Nat} (hj : j ∈ s.bl) : cls W j = 1 := by
  simp only [Tr.bl, List.mem_cons] at hj
  rcases hj with rfl | rfl | rfl | hj
  · rw [cls_cells h.cell]; decide
  · obtain ⟨⟨es, c, hb, _⟩, _⟩ := h.nodes; exact cls_map hb
  · obtain ⟨⟨es, c, hb, _⟩, _⟩ := h.rows; exact cls_map hb
  · obtain ⟨q, hq, rfl⟩ := List.mem_map.1 hj
    obtain ⟨⟨es, c, hb, _⟩, _⟩ := h.row q hq
    exact cls_map hb
theorem ref_cls {B : Nat} {W : World} {d : Nat} {NL : List RN} {PL : List (List RN)} {vn vp : Value} {us : List Value} (h : RefP B W d NL PL vn vp us) {j : Nat} (hj : refB d vn vp us j) : cls W j = 3 := by
  rcases hj with rfl | q | q | ⟨i, u, hu, q⟩
  · rw [cls_cells h.cell]; decide
  · obtain ⟨_, c, hc⟩ := h.nodes.ge j q; rw [cls_cells hc]; decide
  · obtain ⟨_, c, hc⟩ := h.past.ge j q; rw [cls_cells hc]; decide
  · have hi : i < PL.length := by rw [← h.len]; exact (List.getElem?_eq_some_iff.1 hu).1
    obtain ⟨_, c, hc⟩ := (h.lists i u _ hu (List.getElem?_eq_getElem hi)).ge j q
    rw [cls_cells hc]; decide
theorem bk_cls {N : Nat} {W : World} {v : Value} {X : List Value} (h : OwnV W N 45 v X) {j : Nat} (hj : v.ownBlock = some j) : cls W j = 4 := by
  obtain ⟨_, c, hc⟩ := h.ge j hj; rw [cls_cells hc]; decide
theorem in_cls {N : Nat} {W : World} {v : Value} {X : List Value} (h : OwnV W N 3 v X) {j : Nat} (hj : v.ownBlock = some j) : cls W j = 4 := by
  obtain ⟨_, c, hc⟩ := h.ge j hj; rw [cls_cells hc]; decide
theorem bk_in {N M : Nat} {W : World} {v u : Value} {X Y : List Value} (h : OwnV W N 45 v X) (h' : OwnV W M 3 u Y) {j : Nat} (hj : v.ownBlock = some j) : u.ownBlock ≠ some j := by
  intro e
  obtain ⟨_, c, hc⟩ := h.ge j hj
  obtain ⟨_, c', hc'⟩ := h'.ge j e
  rw [hc] at hc'
  simp at hc'
theorem OwnV.base {N B : Nat} {w : World} {e : TypeId} {v : Value} {X : List Value} (h : OwnV w N e v X) (hB : B ≤ N) : OwnV w B e v X := by
  refine ⟨h.1, ?_⟩
  rcases h.2 with hn | ⟨g, cap, cur, rfl, hbg, hg, rest⟩
  · exact .inl hn
  · exact .inr ⟨g, cap, cur, rfl, Nat.le_trans hB hbg, hg, rest⟩
def TwoG (g g' : Nat → Nat) : Prop := (∀ j, Mut g j → g' j = 0) ∧ ∀ j, Mut g' j → g j = 0
theorem TwoG.symm {g g' : Nat → Nat} (h : TwoG g g') : TwoG g' g := ⟨h.2, h.1⟩
theorem mut_ne {g : Nat → Nat} {j : Nat} (h : Mut g j) : g j ≠ 0 := by
  rcases h with h | h | h <;> rw [h] <;> decide
structure St9 (B N : Nat) (w0 : World) (p : Pl) (W : World) (o4 o9 o10 o15 o16 o21 : Option Value) : Prop where
  bel : Below N w0 W
  tr : ∀ v, o4 = some v → ∃ s2 : Tr, v = .pointer (some ⟨s2.t, 0, none⟩) ∧ Own B W s2 p.H p.f ∧ ∀ j ∈ s2.bl, N ≤ j
  rf : ∀ v, o9 = some v → ∃ d vn vp us, v = .pointer (some ⟨d, 0, none⟩) ∧ RefP B W d p.NL p.PL vn vp us ∧ ∀ j, refB d vn vp us j → N ≤ j
  b0 : ∀ v, o10 = some v → o15 = none → OwnV W N 45 v []
  b1 : ∀ v, o15 = some v → OwnV W N 45 v (p.BL.map bkV)
  s0 : ∀ v, o16 = some v → o21 = none → OwnV W N 3 v []
  s1 : ∀ v, o21 = some v → OwnV W N 3 v (p.SL.map inV)
section
variable {B N : Nat} {w0 : World} {p : Pl} {W W' : World} {o4 o9 o10 o15 o16 o21 : Option Value}
theorem own_below {s : Tr} {H : List Rec} {f : Fn} (h : Own B W s H f) (b : Below W.heap.size W W') : Own B W' s H f :=
  h.keep (O := fun _ => False) ⟨b.os, b.tape, b.output, b.size, fun k hk _ => b.block k hk⟩ (fun _ _ q => q) (fun _ _ _ _ q => q)
theorem St9.below (h : St9 B N w0 p W o4 o9 o10 o15 o16 o21) (hN : N ≤ W.heap.size) (b : Below W.heap.size W W') : St9 B N w0 p W' o4 o9 o10 o15 o16 o21 := by
  refine ⟨h.bel.trans (b.mono hN), fun v hv => ?_, fun v hv => ?_, fun v hv h0 => (h.b0 v hv h0).below b, fun v hv => (h.b1 v hv).below b, fun v hv h0 => (h.s0 v hv h0).below b, fun v hv => (h.s1 v hv).below b⟩
  · obtain ⟨s2, e, ho, hj⟩ := h.tr v hv
    exact ⟨s2, e, own_below ho b, hj⟩
  · obtain ⟨d, vn, vp, us, e, hr, hj⟩ := h.rf v hv
    exact ⟨d, vn, vp, us, e, hr.below b, hj⟩
end
theorem run_bs0g (T e y : TypeId) (z : Value) (ht : Try.prog.underlying T = some (.slice e)) (hi : (Try.prog.info? e).map (fun i => (i.zero, i.size, i.bytes)) = some (some z, 1, y)) (w : World) : (Instr.buildSlice T 0 #[]).run Try.prog w = .ok (.slice (some ⟨w.heap.size, 0, none⟩) 0 0) (w.alloc (.cells #[] e)) := by
  obtain ⟨ie, hi, hz, hs, hby⟩ := info_parts hi
  simp [Instr.buildSlice, run_underlying ht, sizeOf, typeInfo, zeroValue, hi, hz, hs, newRow, Instr.fill]
  rw [show Array.range 0 = #[] by simp [Array.range], Array.map_empty]
theorem own_nilV (w : World) (N e : Nat) (hN : N ≤ w.heap.size) : OwnV (w.alloc (.cells #[] e)) N e (.slice (some ⟨w.heap.size, 0, none⟩) 0 0) [] :=
  ⟨by simp, Or.inr ⟨w.heap.size, 0, #[], rfl, hN, heap_alloc_new _ _, by simp, by unfold maxLen; omega, by simp, by simp⟩⟩
section
variable {B N : Nat} {w0 : World} {p : Pl} {W W' : World} {o4 o9 o10 o15 o16 o21 : Option Value}
theorem k10 (h : St9 B N w0 p W o4 o9 none none o16 none) (hN : N ≤ W.heap.size) : ∃ v w2, (Instr.buildSlice 29 0 #[]).run Try.prog W = .ok v w2 ∧ St9 B N w0 p w2 o4 o9 (some v) none o16 none := by
  have h2 := h.below hN ((Below.refl W.heap.size W).alloc (Nat.le_refl _) (.cells #[] 45))
  exact ⟨_, _, run_bs0g 29 45 8 _ Try.underlying29 infoBk W, ⟨h2.bel, h2.tr, h2.rf, fun v hv _ => by cases hv; exact own_nilV W N _ hN, h2.b1, h2.s0, h2.s1⟩⟩
theorem k16 (h : St9 B N w0 p W o4 o9 o10 o15 none none) (hN : N ≤ W.heap.size) : ∃ v w2, (Instr.buildSlice 30 0 #[]).run Try.prog W = .ok v w2 ∧ St9 B N w0 p w2 o4 o9 o10 o15 (some v) none := by
  have h2 := h.below hN ((Below.refl W.heap.size W).alloc (Nat.le_refl _) (.cells #[] 3))
  exact ⟨_, _, run_bs0g 30 3 8 _ Try.underlying30 infoIn W, ⟨h2.bel, h2.tr, h2.rf, h2.b0, h2.b1, fun v hv _ => by cases hv; exact own_nilV W N _ hN, h2.s1⟩⟩
theorem k15 {v4 v9 v10 : Value} (h : St9 B N w0 p W (some v4) (some v9) (some v10) none o16 none) (hN : N ≤ W.heap.size) (hH : ∀ r ∈ p.H, ∀ b ∈ r.bl, b < N) (hb : OwnV W B 45 p.bv (p.BL.map bkV)) (hl : p.BL.length ≤ 1300000000000) :
    ∃ v w2, (Builtin.append_ #[29, 29] 29 #[v10, p.bv]).run Try.prog W = .ok v w2 ∧ St9 B N w0 p w2 (some v4) (some v9) (some v10) (some v) o16 none := by
  obtain ⟨a, c, e, _, hv, _⟩ := hb.open
  have own := h.b0 v10 rfl rfl
  obtain ⟨v, w2, e2, own2, g2, o2⟩ := run_appV 29 45 8 _ Try.underlying29 infoBk (Or.inl rfl) rfl W N 29 v10 [] a (p.BL.map bkV) c own hv (by intro u hu; obtain ⟨b, _, rfl⟩ := List.mem_map.1 hu; exact bkV_one b) (by simp; omega) hN
  rw [List.nil_append] at own2
  rw [← e] at e2
  have t : Tch (fun j => v10.ownBlock = some j) W w2 := ⟨g2.os, g2.tape, g2.output, g2.size, fun j hj hO => g2.block j hj (fun q => hO q.symm)⟩
  have ge : ∀ j, v10.ownBlock = some j → N ≤ j := fun j hj => (own.ge j hj).1
  refine ⟨v, w2, e2, ⟨h.bel.trans (t.below hN ge), fun v hv => ?_, fun v hv => ?_, fun v hv h0 => (by cases h0), fun v' hv' => (by cases hv'; exact own2), fun u hu h0 => ?_, fun u hu => (by cases hu)⟩⟩
  · obtain ⟨s2, e, ho, hj⟩ := h.tr v hv
    refine ⟨s2, e, ho.keep t (fun j hj q => ?_) (fun r hr b hb q => ?_), hj⟩
    · have h1 := tr_cls ho.tree.tr hj
      rw [bk_cls own q] at h1
      cases h1
    · have := hH r hr b hb
      have := ge b q
      omega
  · obtain ⟨d, vn, vp, us, e, hr, hj⟩ := h.rf v hv
    refine ⟨d, vn, vp, us, e, hr.keep t (fun j hj q => ?_), hj⟩
    have h1 := ref_cls hr hj
    rw [bk_cls own q] at h1
    cases h1
  · have hs := h.s0 u hu rfl
    refine hs.keep fun k hk => t.block k (by obtain ⟨_, c, q⟩ := hs.ge k hk; exact (Array.getElem?_eq_some_iff.1 q).1) (fun q => bk_in own hs q hk)
theorem k21 {v4 v9 v10 v15 v16 : Value} (h : St9 B N w0 p W (some v4) (some v9) (some v10) (some v15) (some v16) none) (hN : N ≤ W.heap.size) (hH : ∀ r ∈ p.H, ∀ b ∈ r.bl, b < N) (hb : OwnV W B 3 p.sv (p.SL.map inV)) (hl : p.SL.length ≤ 1300000000000) :
    ∃ v w2, (Builtin.append_ #[30, 30] 30 #[v16, p.sv]).run Try.prog W = .ok v w2 ∧ St9 B N w0 p w2 (some v4) (some v9) (some v10) (some v15) (some v16) (some v) := by
  obtain ⟨a, c, e, _, hv, _⟩ := hb.open
  have own := h.s0 v16 rfl rfl
  obtain ⟨v, w2, e2, own2, g2, o2⟩ := run_appV 30 3 8 _ Try.underlying30 infoIn (Or.inl rfl) rfl W N 30 v16 [] a (p.SL.map inV) c own hv (by intro u hu; obtain ⟨b, _, rfl⟩ := List.mem_map.1 hu; rfl) (by simp; omega) hN
  rw [List.nil_append] at own2
  rw [← e] at e2
  have t : Tch (fun j => v16.ownBlock = some j) W w2 := ⟨g2.os, g2.tape, g2.output, g2.size, fun j hj hO => g2.block j hj (fun q => hO q.symm)⟩
  have ge : ∀ j, v16.ownBlock = some j → N ≤ j := fun j hj => (own.ge j hj).1
  refine ⟨v, w2, e2, ⟨h.bel.trans (t.below hN ge), fun v hv => ?_, fun v hv => ?_, fun v hv h0 => (by cases h0), fun u hu => ?_, fun u hu h0 => (by cases h0), fun v' hv' => (by cases hv'; exact own2)⟩⟩
  · obtain ⟨s2, e, ho, hj⟩ := h.tr v hv
    refine ⟨s2, e, ho.keep t (fun j hj q => ?_) (fun r hr b hb q => ?_), hj⟩
    · have h1 := tr_cls ho.tree.tr hj
      rw [in_cls own q] at h1
      cases h1
    · have := hH r hr b hb
      have := ge b q
      omega
  · obtain ⟨d, vn, vp, us, e, hr, hj⟩ := h.rf v hv
    refine ⟨d, vn, vp, us, e, hr.keep t (fun j hj q => ?_), hj⟩
    have h1 := ref_cls hr hj
    rw [in_cls own q] at h1
    cases h1
  · have hs := h.b1 u hu
    refine hs.keep fun k hk => t.block k (by obtain ⟨_, c, q⟩ := hs.ge k hk; exact (Array.getElem?_eq_some_iff.1 q).1) (fun q => bk_in hs own hk q)
end
theorem build_play (a b : Option Addr) (c e : Option Addr) (n1 c1 n2 c2 : Nat) (w : World) : (Instr.build 32 #[(0, .pointer a), (1, .pointer b), (2, .slice c n1 c1), (3, .slice e n2 c2)]).run Try.prog w = .ok (.agg #[.pointer a, .pointer b, .slice c n1 c1, .slice e n2 c2]) w := by go_simp
theorem box_play4 (a b c e : Value) (w : World) : (Instr.box 32 (.agg #[a, b, c, e])).run Try.prog w = .ok (.pointer (some ⟨w.heap.size, 0, none⟩)) (w.alloc (.cells #[a, b, c, e] 32)) := by go_simp
def Forked (B m : Nat) (w0 : World) (g : Nat → Nat) (pv : Value) (w2 : World) : Prop := Below w0.heap.size w0 w2 ∧ ∃ y t' d' q g', pv = .pointer (some ⟨y, 0, none⟩) ∧ PX B y t' d' m q g' w2 ∧ TwoG g g'
theorem kB {B x t d m : Nat} {p : Pl} {g : Nat → Nat} {w0 W : World} {v4 v9 v10 v15 v16 v21 : Value} (hx : PX B x t d m p g w0) (hB : B ≤ w0.heap.size) (h : St9 B w0.heap.size w0 p W (some v4) (some v9) (some v10) (some v15) (some v16) (some v21)) :
    ∃ bv pv w2, (∀ W', (Instr.build 32 #[(0, v4), (1, v9), (2, v15), (3, v21)]).run Try.prog W' = .ok bv W') ∧ (Instr.box 32 bv).run Try.prog W = .ok pv w2 ∧ Below w0.heap.size w0 w2 ∧ Forked B m w0 g pv w2 := by
  obtain ⟨s2, rfl, ho, hs2⟩ := h.tr v4 rfl
  obtain ⟨d2, vn, vp, us, rfl, hr, hrb⟩ := h.rf v9 rfl
  have hb := h.b1 v15 rfl
  have hs := h.s1 v21 rfl
  obtain ⟨a1, c1, e1, _⟩ := hb.open
  obtain ⟨a2, c2, e2, _⟩ := hs.open
  have zN := h.bel.size
  have b2 : Below W.heap.size W (W.alloc (.cells #[.pointer (some ⟨s2.t, 0, none⟩), .pointer (some ⟨d2, 0, none⟩), v15, v21] 32)) := (Below.refl _ _).alloc (Nat.le_refl _) _
  have hc := heap_alloc_new W (.cells #[.pointer (some ⟨s2.t, 0, none⟩), .pointer (some ⟨d2, 0, none⟩), v15, v21] 32)
  refine ⟨.agg #[.pointer (some ⟨s2.t, 0, none⟩), .pointer (some ⟨d2, 0, none⟩), v15, v21], _, _, fun W' => by rw [e1, e2]; exact build_play _ _ _ _ _ _ _ _ W', box_play4 _ _ _ _ W, ?_⟩
  generalize W.alloc (.cells #[.pointer (some ⟨s2.t, 0, none⟩), .pointer (some ⟨d2, 0, none⟩), v15, v21] 32) = w2 at *
  have bel : Below w0.heap.size w0 w2 := h.bel.trans (b2.mono zN)
  have ho2 := own_below ho b2
  have hr2 := hr.below b2
  have hb2 := hb.below b2
  have hs2' := hs.below b2
  obtain ⟨g', hg⟩ : ∃ g' : Nat → Nat, g' = fun j => if j < w0.heap.size then (if g j = 2 then 2 else 0) else cls w2 j := ⟨_, rfl⟩
  have gn : ∀ j, w0.heap.size ≤ j → g' j = cls w2 j := fun j hj => by rw [hg]; show (if j < w0.heap.size then _ else _) = _; rw [if_neg (by omega)]
  have g2 : ∀ j, g j = 2 → g' j = 2 := fun j hj => by
    have := hx.ps.lt (j := j) (by rw [hj]; decide)
    rw [hg]
    show (if j < w0.heap.size then _ else _) = _
    rw [if_pos this, if_pos hj]
  have go : ∀ j, j < w0.heap.size → g' j = 2 ∧ g j = 2 ∨ g' j = 0 ∧ g j ≠ 2 := fun j hj => by
    rw [hg]
    show (if j < w0.heap.size then _ else _) = _ ∧ _ ∨ (if j < w0.heap.size then _ else _) = _ ∧ _
    rw [if_pos hj]
    by_cases q : g j = 2
    · rw [if_pos q]; exact Or.inl ⟨rfl, q⟩
    · rw [if_neg q]; exact Or.inr ⟨rfl, q⟩
  clear hg
  refine ⟨bel, bel, W.heap.size, s2.t, d2, ⟨W.heap.size, s2, p.H, p.f, d2, p.NL, p.PL, vn, vp, us, v15, p.BL, v21, p.SL⟩, g', rfl, ⟨rfl, rfl, rfl, ⟨ho2, hr2, hc, hb2.base hB, hs2'.base hB, fun b hb => ?_, fun j hj => ?_, fun r hr b hb => g2 b (hx.ps.g2 r hr b hb), fun j hj => ?_, fun j hj => ?_, fun j hj => ?_, fun j hj => ?_⟩, ⟨hx.ln.eq, hx.ln.hm, hx.ln.len, hx.ln.nd, hx.ln.one, hx.ln.hit, hx.ln.all⟩, hx.mb, hx.mn, hx.mp, hx.mq⟩, ⟨fun j hj => ?_, fun j hj => ?_⟩⟩
  · obtain ⟨q, c, hq⟩ := hx.ps.bk b hb
    exact ⟨g2 b q, c, (bel.block b (hx.ps.lt (by rw [q]; decide))).trans hq⟩
  · rw [gn j (hs2 j hj)]; exact tr_cls ho2.tree.tr hj
  · rw [gn j (hrb j hj)]; exact ref_cls hr2 hj
  · rcases hj with rfl | q | q
    · rw [gn _ zN, cls_cells hc]; decide
    · rw [gn j (hb.ge j q).1]; exact bk_cls hb2 q
    · rw [gn j (hs.ge j q).1]; exact in_cls hs2' q
  · have := bel.size
    rw [gn j (by omega)]
    unfold cls
    rw [Array.getElem?_eq_none hj]
  · rcases Nat.lt_or_ge j w0.heap.size with hl | hl
    · rcases go j hl with ⟨_, q⟩ | ⟨q, _⟩
      · exact hx.ps.gB j (by rw [q]; decide)
      · exact absurd q hj
    · omega
  · have hl := hx.ps.lt (mut_ne hj)
    rcases go j hl with ⟨_, q⟩ | ⟨q, _⟩
    · unfold Mut at hj; rw [q] at hj; rcases hj with e | e | e <;> cases e
    · exact q
  · rcases Nat.lt_or_ge j w0.heap.size with hl | hl
    · rcases go j hl with ⟨q, _⟩ | ⟨q, _⟩
      · unfold Mut at hj; rw [q] at hj; rcases hj with e | e | e <;> cases e
      · unfold Mut at hj; rw [q] at hj; rcases hj with e | e | e <;> cases e
    · exact hx.ps.gz j hl
section
variable {B N : Nat} {w0 : World} {p : Pl} {W W' : World} {o4 o9 o10 o15 o16 o21 : Option Value}
theorem k4 (h : St9 B N w0 p W none none o10 none o16 none) (hN : N ≤ W.heap.size) (ho : Own B W p.s p.H p.f) (hB : B ≤ W.heap.size) :
    Calls Try.prog 15 #[.pointer (some ⟨p.s.t, 0, none⟩)] W fun e w' => ∃ v, e = .returned v ∧ St9 B N w0 p w' (some v) none o10 none o16 none := by
  refine (fork_own ho hB).mono ?_
  rintro e w' ⟨s2, rfl, ho2, b, hj⟩
  have h2 := h.below hN b
  exact ⟨_, rfl, h2.bel, fun v hv => by cases hv; exact ⟨s2, rfl, ho2, fun j q => Nat.le_trans hN (hj j q)⟩, h2.rf, h2.b0, h2.b1, h2.s0, h2.s1⟩
theorem k9 {v4 : Value} (h : St9 B N w0 p W (some v4) none o10 none o16 none) (hN : N ≤ W.heap.size) (hr : RefP B W p.d p.NL p.PL p.vn p.vp p.us) (hB : B ≤ W.heap.size) (hn : p.NL.length ≤ 1300000000000) (hp : p.PL.length ≤ 1300000000000) (hP : ∀ P ∈ p.PL, P.length ≤ 1300000000000) :
    Calls Try.prog 16 #[.pointer (some ⟨p.d, 0, none⟩)] W fun e w' => ∃ v, e = .returned v ∧ St9 B N w0 p w' (some v4) (some v) o10 none o16 none := by
  refine (fork_ref hr hB hn hp hP).mono ?_
  rintro e w' ⟨d, vn, vp, us, rfl, hr2, b, hj⟩
  have h2 := h.below hN b
  exact ⟨_, rfl, h2.bel, h2.tr, fun v hv => by cases hv; exact ⟨d, vn, vp, us, rfl, hr2, fun j q => Nat.le_trans hN (hj j q)⟩, h2.b0, h2.b1, h2.s0, h2.s1⟩
end
theorem app_ids {w w1 : World} {v1 v2 : Value} {L M : List IdK} (h1 : OwnI w1 w.heap.size v1 L) (b1 : Below w.heap.size w w1) {B2 : Nat} (h2 : OwnI w1 B2 v2 M) (okM : ∀ x ∈ M, x.ok) (hl : L.length + M.length ≤ 5600000000000) :
    ∃ v3 w3, (Builtin.append_ #[41, 41] 41 #[v1, v2]).run Try.prog w1 = .ok v3 w3 ∧ OwnI w3 w.heap.size v3 (L ++ M) ∧ Below w.heap.size w w3 := by
  obtain ⟨a, c, rfl, hM, _⟩ := h2.open okM
  obtain ⟨v3, w3, e, own, g, _⟩ := run_appI w1 w.heap.size v1 L a M c h1 hM okM hl b1.size
  refine ⟨v3, w3, e, own, b1.trans ⟨g.os, g.tape, g.output, g.size, fun j hj => g.block j (Nat.lt_of_lt_of_le hj b1.size) fun q => ?_⟩⟩
  have := (h1.ge j q.symm).1
  omega
def allN (L A B : List OpV) : List IdK := (namedL L ++ namedL A) ++ namedL B
theorem allN_ok {L A B : List OpV} (hL : ∀ x ∈ L, x.ok) (hA : ∀ x ∈ A, x.ok) (hB : ∀ x ∈ B, x.ok) : ∀ y ∈ allN L A B, y.ok := by
  intro y hy
  rcases List.mem_append.1 hy with hy | hy
  · rcases List.mem_append.1 hy with hy | hy
    · exact namedL_ok hL y hy
    · exact namedL_ok hA y hy
  · exact namedL_ok hB y hy
theorem named_len (L : List OpV) : (namedL L).length = 2 * L.length + 1 := by rw [namedL, List.length_cons, pairs_len]
theorem names_all (w : World) (al : Option Addr) (cl : Nat) (L : List OpV) (aa : Option Addr) (ca : Nat) (A : List OpV) (ab : Option Addr) (cb : Nat) (B : List OpV) (hL : RowAt 69 OpV.c w al L) (hA : RowAt 69 OpV.c w aa A) (hB : RowAt 69 OpV.c w ab B)
    (okL : ∀ x ∈ L, x.ok) (okA : ∀ x ∈ A, x.ok) (okB : ∀ x ∈ B, x.ok) (nL : L.length ≤ 1048576) (nA : A.length ≤ 1048576) (nB : B.length ≤ 1048576) :
    Calls Try.prog 14 #[.slice al L.length cl] w fun e w' => ∃ v1, e = .returned v1 ∧ Calls Try.prog 14 #[.slice aa A.length ca] w' fun e w' => ∃ v2 v3 w3, e = .returned v2 ∧ (Builtin.append_ #[41, 41] 41 #[v1, v2]).run Try.prog w' = .ok v3 w3 ∧ Calls Try.prog 14 #[.slice ab B.length cb] w3 fun e w' => ∃ v4 v5 w5, e = .returned v4 ∧ (Builtin.append_ #[41, 41] 41 #[v3, v4]).run Try.prog w' = .ok v5 w5 ∧ OwnI w5 w.heap.size v5 (allN L A B) ∧ Below w.heap.size w w5 := by
  have l1 := named_len L
  have l2 := named_len A
  have l3 := named_len B
  refine (named_any al cl L w hL okL (by omega)).mono ?_
  rintro e w1 ⟨v1, rfl, o1, b1⟩
  refine ⟨v1, rfl, (named_any aa ca A w1 (hA.below b1) okA (by omega)).mono ?_⟩
  rintro e w2 ⟨v2, rfl, o2, b2⟩
  have b12 := b1.trans (b2.mono b1.size)
  obtain ⟨v3, w3, e3, o3, b3⟩ := app_ids (o1.below b2) b12 o2 (namedL_ok okA) (by omega)
  refine ⟨v2, v3, w3, rfl, e3, (named_any ab cb B w3 (hB.below b3) okB (by omega)).mono ?_⟩
  rintro e w4 ⟨v4, rfl, o4, b4⟩
  obtain ⟨v5, w5, e5, o5, b5⟩ := app_ids (o3.below b4) (b3.trans (b4.mono b3.size)) o4 (namedL_ok okB) (by rw [List.length_append]; omega)
  exact ⟨v4, v5, w5, rfl, e5, o5, b5⟩
structure TP (B x t d y t' d' m : Nat) (ai : Option Addr) (I : List IdK) (w : World) : Prop where
  two : ∃ g p g' q, PX B x t d m p g w ∧ PX B y t' d' m q g' w ∧ TwoG g g' ∧ ∀ b off, ai = some ⟨b, off, none⟩ → b < w.heap.size ∧ g b = 0 ∧ g' b = 0
  ids : IdsAt w ai I
section
variable {B x t d y t' d' m : Nat} {ai : Option Addr} {I : List IdK} {w w' : World}
theorem TP.below (h : TP B x t d y t' d' m ai I w) (b : Below w.heap.size w w') : TP B x t d y t' d' m ai I w' := by
  obtain ⟨⟨g, p, g', q, hx, hy, tw, hz⟩, hi⟩ := h
  exact ⟨⟨g, p, g', q, hx.below b, hy.below b, tw, fun c off e => ⟨Nat.lt_of_lt_of_le (hz c off e).1 b.size, (hz c off e).2⟩⟩, hi.below b⟩
theorem TP.up (h : TP B x t d y t' d' m ai I w) : TP B x t d y t' d' (m + 1) ai I w := by
  obtain ⟨⟨g, p, g', q, hx, hy, tw, hz⟩, hi⟩ := h
  exact ⟨⟨g, p, g', q, hx.mono (Nat.le_succ _), hy.mono (Nat.le_succ _), tw, hz⟩, hi⟩
theorem TP.swap (h : TP B x t d y t' d' m ai I w) : TP B y t' d' x t d m ai I w := by
  obtain ⟨⟨g, p, g', q, hx, hy, tw, hz⟩, hi⟩ := h
  exact ⟨⟨g', q, g, p, hy, hx, tw.symm, fun b off e => ⟨(hz b off e).1, (hz b off e).2.symm⟩⟩, hi⟩
theorem TP.step (h : TP B x t d y t' d' m ai I w) (hB : B ≤ w.heap.size) (hm : m + 1 ≤ 1300000000000) (o : OpV) (ok : o.ok) {w0 : World} (hw0 : w0.heap.size = B) (bel : Below w0.heap.size w0 w) :
    Calls Try.prog 12 #[.pointer (some ⟨x, 0, none⟩), .agg o.c.toArray] w fun e w' => e = .returned (.bool true) ∧ TP B x t d y t' d' (m + 1) ai I w' ∧ Below w0.heap.size w0 w' := by
  obtain ⟨⟨g, p, g', q, hx, hy, tw, hz⟩, hi⟩ := h
  refine (play_step hx hB hm o ok).mono ?_
  intro e w' hs
  obtain ⟨he, g1, p1, ext, tc, hx1⟩ := hs
  have hy1 := hy.keep tc fun j hj q => hj (tw.1 j q)
  have tw1 : TwoG g1 g' := by
    refine ⟨fun j hj => ?_, fun j hj => ?_⟩
    · rcases Nat.lt_or_ge j w.heap.size with hl | hl
      · refine tw.1 j ?_
        unfold Mut at hj ⊢
        rwa [ext j hl] at hj
      · exact hy.ps.gz j hl
    · have hl := hy.ps.lt (mut_ne hj)
      rw [ext j hl]
      exact tw.2 j hj
  refine ⟨he, ⟨⟨g1, p1, g', q, hx1, hy1.mono (Nat.le_succ _), tw1, ?_⟩, ?_⟩, ?_⟩
  · intro b off e
    obtain ⟨lb, h1, h2⟩ := hz b off e
    exact ⟨Nat.lt_of_lt_of_le lb tc.size, by rw [ext b lb]; exact h1, h2⟩
  · refine hi.keepT (fun b off e lb => tc.block b lb fun q => mut_ne q (hz b off e).2.1) tc.size
  · rw [← hw0] at hx
    exact px_below (B := 0) hx bel tc
end
theorem op_at {w : World} {a : Option Addr} {L : List OpV} (hL : RowAt 69 OpV.c w a L) (ok : ∀ x ∈ L, x.ok) {i : Nat} (hi : i < L.length) :
    ∃ o b off, o.ok ∧ a = some ⟨b, off, none⟩ ∧ ∀ W, Below w.heap.size w W → (Instr.loadAt 39 (.pointer (some ⟨b, off + i * 69, none⟩))).run Try.prog W = .ok (.agg (OpV.c o).toArray) W := by
  have hxi : L[i]? = some L[i] := List.getElem?_eq_getElem hi
  generalize L[i] = o at hxi
  have hxo : o.ok := ok o (List.mem_of_getElem? hxi)
  rcases hL with rfl | ⟨b, o', e, h1, h2⟩
  · simp at hxi
  · exact ⟨o, b, o', hxo, e, fun W bw => load_op hxo (rangeAt_keep (h2 i o hxi) (bw.block _ h1))⟩
theorem len_ops (a : Option Addr) (n c : Nat) (hn : n ≤ 1048576) (W : World) : (Builtin.len_ #[23] 3 #[.slice a n c]).run Try.prog W = .ok (.int .i64 (n : Int)) W := by go_simp
theorem lss_eg (x y : Operand) (i n : Int) (W : World) : (eqGuard BinOp.lss 3 x y (.int .i64 i) (.int .i64 n)).run Try.prog W = .ok () W := by go_simp
theorem lss_t {i n : Nat} (h : i < n) (W : World) : (binOp BinOp.lss 3 (.int .i64 (i : Int)) (.int .i64 (n : Int))).run Try.prog W = .ok (.bool true) W := by go_simp
theorem lss_f {i n : Nat} (h : ¬ i < n) (W : World) : (binOp BinOp.lss 3 (.int .i64 (i : Int)) (.int .i64 (n : Int))).run Try.prog W = .ok (.bool false) W := by go_simp
theorem nil_no (t : Nat) (W : World) : (binOp BinOp.eql 25 (.pointer (some ⟨t, 0, none⟩)) (.pointer none)).run Try.prog W = .ok (.bool false) W := by go_simp
theorem nil_eg (x y : Operand) (t : Nat) (W : World) : (eqGuard BinOp.eql 25 x y (.pointer (some ⟨t, 0, none⟩)) (.pointer none)).run Try.prog W = .ok () W := by go_simp
theorem TP.alike {B x t d y t' d' m : Nat} {ai : Option Addr} {I : List IdK} {w : World} (h : TP B x t d y t' d' m ai I w) (hm : m ≤ 1300000000000) (ci : Nat) (oI : ∀ y ∈ I, y.ok) (lI : I.length ≤ 7000000000000) :
    Calls Try.prog 13 #[.pointer (some ⟨t, 0, none⟩), .pointer (some ⟨d, 0, none⟩), .slice ai I.length ci] w fun e w' => e = .returned (.bool true) ∧ Below w.heap.size w w' := by
  obtain ⟨⟨g, p, g', q, hx, hy, tw, hz⟩, hi⟩ := h
  exact px_alike hx hm ai ci I hi oI lI
theorem TP.cells {B x t d y t' d' m : Nat} {ai : Option Addr} {I : List IdK} {w : World} (h : TP B x t d y t' d' m ai I w) : w.cell? ⟨x, 0, none⟩ = some (.pointer (some ⟨t, 0, none⟩)) ∧ w.cell? ⟨x, 1, none⟩ = some (.pointer (some ⟨d, 0, none⟩)) := by
  obtain ⟨⟨g, p, g', q, hx, hy, tw, hz⟩, hi⟩ := h
  refine ⟨?_, ?_⟩
  · rw [← hx.x, ← hx.t]; exact cell_p0 hx.ps.cell
  · rw [← hx.x, ← hx.d]; exact cell_p1 hx.ps.cell
theorem TP.start {B x t d m : Nat} {p : Pl} {g : Nat → Nat} {w0 w1 w2 : World} {pv v : Value} {I : List IdK} (hx : PX B x t d m p g w0) (hf : Forked B m w0 g pv w1) (ho : OwnI w2 w1.heap.size v I) (ok : ∀ x ∈ I, x.ok) (b : Below w1.heap.size w1 w2) :
    ∃ y t' d' ai ci, pv = .pointer (some ⟨y, 0, none⟩) ∧ v = .slice ai I.length ci ∧ TP B x t d y t' d' m ai I w2 := by
  obtain ⟨bel, y, t', d', q, g', rfl, hy, tw⟩ := hf
  obtain ⟨ai, ci, rfl, hi, _⟩ := ho.open ok
  refine ⟨y, t', d', ai, ci, rfl, rfl, ⟨g, p, g', q, (hx.below bel).below b, hy.below b, tw, fun c off e => ?_⟩, hi⟩
  subst e
  have hb := ho.ge
  rcases ho.2 with ⟨e, _⟩ | ⟨k, cap, cur, e, hk, hc, _⟩
  · cases e
  · injection e with e _ _
    cases e
    refine ⟨(Array.getElem?_eq_some_iff.1 hc).1, ?_, hy.ps.gz c hk⟩
    exact (hx.below bel).ps.gz c hk
theorem fork_all (al : Option Addr) (cl : Nat) (L : List OpV) (aa : Option Addr) (ca : Nat) (A : List OpV) (ab : Option Addr) (cb : Nat) (D : List OpV) (w : World) (hL : RowAt 69 OpV.c w al L) (hA : RowAt 69 OpV.c w aa A) (hD : RowAt 69 OpV.c w ab D)
    (okL : ∀ x ∈ L, x.ok) (okA : ∀ x ∈ A, x.ok) (okD : ∀ x ∈ D, x.ok) (nL : L.length ≤ 1048576) (nA : A.length ≤ 1048576) (nD : D.length ≤ 1048576) :
    Calls Try.prog 6 #[.slice al L.length cl, .slice aa A.length ca, .slice ab D.length cb] w fun e w' => e = .returned (.bool true) ∧ Below w.heap.size w w' := by
  have HNM := hidMk (fun (W : World) (b : Below w.heap.size w W) => names_all W al cl L aa ca A ab cb D (hL.below b) (hA.below b) (hD.below b) okL okA okD nL nA nD)
  have HOL := hidMk (fun (i : Nat) (hi : i < L.length) => op_at hL okL hi)
  have HOA := hidMk (fun (i : Nat) (hi : i < A.length) => op_at hA okA hi)
  have HOD := hidMk (fun (i : Nat) (hi : i < D.length) => op_at hD okD hi)
  have HOK := hidMk (allN_ok okL okA okD)
  have HIL := hidMk (show (allN L A D).length ≤ 7000000000000 by
    have := named_len L; have := named_len A; have := named_len D
    rw [allN, List.length_append, List.length_append]; omega)
  obtain ⟨nl, hnl⟩ : ∃ n, L.length = n := ⟨_, rfl⟩
  obtain ⟨na, hna⟩ : ∃ n, A.length = n := ⟨_, rfl⟩
  obtain ⟨nd, hnd⟩ : ∃ n, D.length = n := ⟨_, rfl⟩
  rw [hnl, hna, hnd] at HNM
  rw [hnl] at HOL nL ⊢
  rw [hna] at HOA nA ⊢
  rw [hnd] at HOD nD ⊢
  clear hL hA hD hnl hna hnd okL okA okD
  have HA := hidMk (alive_any w)
  have HR := hidMk rnew_own
  have HN1 := hidMk new_own
  go_enter Try.func6, Try.ntmps6
  go_upto_region 5 with (first
    | (go_at_call 9; refine HA.out.mono ?_; rintro e w1 ⟨rfl, b1⟩; clear HA)
    | (go_at_call 10; refine (HN1.out _).mono ?_; rintro e w2 ⟨s, rfl, hs, b2⟩; clear HN1)
    | (go_at_call 11; refine (HR.out _).mono ?_; rintro e w3 ⟨d, rfl, hd, b3⟩; clear HR)
    | fail)
  obtain ⟨hpx, hbl⟩ := px_start b1 hs b2 hd b3
  clear hs hd b1 b2 b3
  generalize w3.alloc (.cells #[.pointer (some ⟨s.t, 0, none⟩), .pointer (some ⟨d, 0, none⟩), .slice none 0 0, .slice none 0 0] 32) = w4 at *
  generalize w3.heap.size = x at *
  generalize p0 s d x = pp at *
  generalize g0 s d x = gg at *
  generalize s.t = t at *
  go_loopw [8] (fun v8 wr => ∃ i : Nat, v8 = .int .i64 (i : Int) ∧ i ≤ nl ∧ (∃ g p, PX w.heap.size x t d i p g wr) ∧ Below w.heap.size w wr) (fun v8 wr => nl - (match v8 with | .int _ i => i.toNat | _ => 0))
  case atStart => exact ⟨0, rfl, Nat.zero_le _, ⟨_, _, hpx⟩, hbl⟩
  case round =>
    clear hpx hbl
    obtain ⟨i, rfl, hin, ⟨g, p, px⟩, bel⟩ := hrel
    by_cases hi : i < nl
    · obtain ⟨o, b, off, hxo, ea, HO⟩ := HOL.out i hi
      subst ea
      have HO2 := hidMk (HO wr bel)
      have HP := hidMk px
      have HBL := hidMk bel
      clear HO px bel
      go_upto_region 7 with fail
      refine tfork7 x (.slice (some ⟨b, off, none⟩) nl cl) (.int .i64 (i : Int)) (.pointer (some ⟨b, off + i * 69, none⟩)) (.agg (OpV.c o).toArray) (fun W => (∃ g p, PX w.heap.size x t d (i + 1) p g W) ∧ Below w.heap.size w W) _ wr _ rfl rfl rfl rfl ?_ (fun W => ix_op hi (by omega) W) HO2.out ?_
      · refine (play_step HP.out HBL.out.size (by omega) o hxo).mono ?_
        rintro e wB ⟨rfl, g', p', ex, tc, px'⟩
        exact ⟨rfl, ⟨g', p', px'⟩, px_below (B := 0) HP.out HBL.out tc⟩
      intro a' w' hw' ha
      subst ha
      simp only [Act.put, List.setIfInBounds_toArray, List.set_cons_zero, List.set_cons_succ]
      have HW := hidMk hw'
      clear hw' HO2
      go_wp2
      rw [show ((i : Int) + 1) = ((i + 1 : Nat) : Int) by omega]
      refine ⟨⟨i + 1, rfl, hi, HW.out.1, HW.out.2⟩, ?_⟩
      show nl - ((i + 1 : Nat) : Int).toNat < nl - (i : Int).toNat
      omega
    · obtain rfl : i = nl := by omega
      have HP := hidMk px
      have HBL := hidMk bel
      clear hin hi px bel
      go_upto_region 9 with fail
      have bd : Below wr.heap.size wr wr.drew := (Below.refl _ _).drew
      have pd := HP.out.below bd
      have bld : Below w.heap.size w wr.drew := HBL.out.trans (bd.mono HBL.out.size)
      have hBz : w.heap.size ≤ wr.drew.heap.size := bld.size
      have hH : ∀ r ∈ p.H, ∀ b ∈ r.bl, b < wr.drew.heap.size := fun r hr b hb => pd.ps.lt (by rw [pd.ps.g2 r hr b hb]; decide)
      have m1 := pd.mb
      have m2 := pd.mn
      have m3 := pd.mp
      have m4 := pd.mq
      have m5 := pd.ln.len
      refine tfork9c (fun W => Below wr.drew.heap.size wr.drew W) (St9 w.heap.size wr.drew.heap.size wr.drew p) (fun _ _ _ _ pv W => Forked w.heap.size i wr.drew g pv W) x (.pointer (some ⟨t, 0, none⟩)) (.pointer (some ⟨d, 0, none⟩)) p.bv p.sv _ wr _ rfl rfl (fun W _ _ _ _ _ _ h => h.bel) ⟨Below.refl _ _, fun _ q => (by cases q), fun _ q => (by cases q), fun _ q => (by cases q), fun _ q => (by cases q), fun _ q => (by cases q), fun _ q => (by cases q)⟩ ?_ ?_ (fun W _ _ _ h => k10 h h.bel.size) (fun W _ _ _ _ h => k16 h h.bel.size) ?_ ?_ (fun W _ _ _ _ _ _ h => kB pd hBz h) ?_ ?_ ?_ ?_ ?_
      · intro W o10 o16 h
        have := k4 h h.bel.size (own_below pd.ps.own h.bel) (Nat.le_trans hBz h.bel.size)
        rw [pd.t] at this
        exact this
      · intro W v4 o10 o16 h
        have := k9 h h.bel.size (pd.ps.ref.below h.bel) (Nat.le_trans hBz h.bel.size) (by omega) (by omega) (fun P hP => by have := m4 P hP; omega)
        rw [pd.d] at this
        exact this
      · exact fun W v4 v9 v10 o16 h => k15 h h.bel.size hH (pd.ps.backs.below h.bel) (by omega)
      · exact fun W v4 v9 v10 v15 v16 h => k21 h h.bel.size hH (pd.ps.steps.below h.bel) (by omega)
      · intro W hW
        have hc := cell_p0 (pd.below hW).ps.cell
        rw [pd.x, pd.t] at hc
        exact load_tp hc
      · intro W hW
        have hc := cell_p1 (pd.below hW).ps.cell
        rw [pd.x, pd.d] at hc
        exact load_dp hc
      · intro W hW
        have hc := cell_p2 (pd.below hW).ps.cell
        rw [pd.x] at hc
        exact load_bs hc
      · intro W hW
        have hc := cell_p3 (pd.below hW).ps.cell
        rw [pd.x] at hc
        exact load_is hc
      intro v4 v9 v10 v15 v16 v21 bv pv a' w5 hF ha
      subst ha
      simp only [Act.put, List.setIfInBounds_toArray, List.set_cons_zero, List.set_cons_succ]
      have b5 : Below w.heap.size w w5 := bld.trans (hF.1.mono hBz)
      have HF := hidMk hF
      have HPD := hidMk pd
      have HB5 := hidMk b5
      clear hF pd b5 m1 m2 m3 m4 m5 hH bld bd HP HBL
      go_upto_region 10 with fail
      refine tfork10 (.slice al i cl) (.slice aa na ca) (.slice ab nd cb) (fun v W => OwnI W w5.heap.size v (allN L A D) ∧ Below w5.heap.size w5 W) _ w5 _ rfl rfl rfl rfl (HNM.out w5 HB5.out) ?_
      rintro v1 v2 v3 v4' v5 a' w6 ⟨ov, b6⟩ ha
      subst ha
      simp only [Act.put, List.setIfInBounds_toArray, List.set_cons_zero, List.set_cons_succ]
      obtain ⟨y, t', d', ai, ci, rfl, rfl, tp⟩ := TP.start HPD.out HF.out ov HOK.out b6
      have HB6 := hidMk (HB5.out.trans (b6.mono HB5.out.size))
      have HTP := hidMk tp
      clear tp b6 ov HF HPD HB5 HNM
      generalize hI : (allN L A D).length = nI at *
      have HNI := hidMk hI
      clear hI
      go_upto_region 11 with fail
      have bd6 : Below w6.heap.size w6 w6.drew := (Below.refl _ _).drew
      have tp6 := (HTP.out.below bd6).swap
      refine tfork11 (fun W => Below w6.drew.heap.size w6.drew W) (fun W => Below w6.drew.heap.size w6.drew W) y (.pointer (some ⟨t', 0, none⟩)) (.pointer (some ⟨d', 0, none⟩)) (.slice ai nI ci) _ w6 _ rfl rfl rfl (Below.refl _ _) ?_ ?_ ?_ ?_ ?_ ?_
      · have := tp6.alike (by omega) ci HOK.out (by rw [HNI.out]; exact HIL.out)
        rw [HNI.out] at this
        exact this.mono fun e w' ⟨h1, h2⟩ => ⟨h1, h2, h2⟩
      · exact fun W hW => load_tp (tp6.below hW).cells.1
      · exact fun W => nil_eg _ _ _ W
      · exact fun W hW => nil_no _ W
      · exact fun W hW => load_dp (tp6.below hW).cells.2
      intro a' w7 b7 ha
      subst ha
      simp only [Act.put, List.setIfInBounds_toArray, List.set_cons_zero, List.set_cons_succ]
      have HT7 := hidMk ((HTP.out.below bd6).below b7)
      have HB7 := hidMk (HB6.out.trans ((bd6.trans b7).mono HB6.out.size))
      clear HTP HB6 bd6 tp6 b7
      go_upto_region 14 with fail
      go_loopw [11] (fun v11 wr => ∃ k : Nat, v11 = .int .i64 (k : Int) ∧ k ≤ 1048576 ∧ TP w.heap.size x t d y t' d' (i + 2 * k) ai (allN L A D) wr ∧ Below w.heap.size w wr) (fun v11 wr => na + nd - (match v11 with | .int _ k => k.toNat | _ => 0))
      case atStart => exact ⟨0, rfl, Nat.zero_le _, HT7.out, HB7.out⟩
      case round =>
        clear HT7 HB7
        obtain ⟨k, rfl, hk, tp, bel⟩ := hrel
        have HT := hidMk tp
        have HBL := hidMk bel
        clear tp bel
        by_cases ha : k < na
        · by_cases hb : k < nd
          · skip
            go_upto_region 16 with fail
            obtain ⟨o, b, off, hxo, ea, HO⟩ := HOA.out k ha
            subst ea
            have HO2 := hidMk (HO wr HBL.out)
            clear HO
            refine tfork16t x (.slice (some ⟨b, off, none⟩) na ca) (.int .i64 (k : Int)) (.int .i64 (na : Int)) (.pointer (some ⟨b, off + k * 69, none⟩)) (.agg (OpV.c o).toArray) (fun W => TP w.heap.size x t d y t' d' (i + 2 * k + 1) ai (allN L A D) W ∧ Below w.heap.size w W) _ wr _ rfl rfl rfl rfl (fun W => len_ops _ _ _ nA W) (fun W => lss_eg _ _ _ _ W) (fun W => lss_t ha W) HO2.out (HT.out.step HBL.out.size (by omega) o hxo rfl HBL.out) (fun W => ix_op ha (by omega) W) ?_
            intro a' w8 h8 he
            subst he
            simp only [Act.put, List.setIfInBounds_toArray, List.set_cons_zero, List.set_cons_succ]
            have H8 := hidMk h8
            clear h8 HO2 HT HBL
            go_upto_region 18 with fail
            obtain ⟨o2, b2, off2, hxo2, ea2, HO⟩ := HOD.out k hb
            subst ea2
            have HO2 := hidMk (HO w8 H8.out.2)
            clear HO
            refine tfork18t y (.slice (some ⟨b2, off2, none⟩) nd cb) (.int .i64 (k : Int)) (.int .i64 (nd : Int)) (.pointer (some ⟨b2, off2 + k * 69, none⟩)) (.agg (OpV.c o2).toArray) (fun W => TP w.heap.size y t' d' x t d (i + 2 * k + 1 + 1) ai (allN L A D) W ∧ Below w.heap.size w W) _ w8 _ rfl rfl rfl rfl (fun W => len_ops _ _ _ nD W) (fun W => lss_eg _ _ _ _ W) (fun W => lss_t hb W) HO2.out (H8.out.1.swap.step H8.out.2.size (by omega) o2 hxo2 rfl H8.out.2) (fun W => ix_op hb (by omega) W) ?_
            intro a' w9 h9 he
            subst he
            simp only [Act.put, List.setIfInBounds_toArray, List.set_cons_zero, List.set_cons_succ]
            have H9 := hidMk (And.intro h9.1.swap h9.2)
            clear h9 HO2 H8
            go_upto_region 20 with fail
            have bd9 : Below w9.heap.size w9 w9.drew := (Below.refl _ _).drew
            have tp9 := H9.out.1.below bd9
            refine tfork20 (fun W => Below w9.drew.heap.size w9.drew W) (fun W => Below w9.drew.heap.size w9.drew W) x y (.pointer (some ⟨t, 0, none⟩)) (.pointer (some ⟨d, 0, none⟩)) (.pointer (some ⟨t', 0, none⟩)) (.pointer (some ⟨d', 0, none⟩)) (.slice ai nI ci) _ w9 _ rfl rfl rfl rfl (Below.refl _ _) ?_ ?_ ?_ ?_ ?_ ?_
            · have h1 := tp9.alike (by omega) ci HOK.out (by rw [HNI.out]; exact HIL.out)
              rw [HNI.out] at h1
              refine h1.mono ?_
              rintro e w' ⟨rfl, bq⟩
              have h2 := (tp9.below bq).swap.alike (by omega) ci HOK.out (by rw [HNI.out]; exact HIL.out)
              rw [HNI.out] at h2
              refine ⟨rfl, bq, h2.mono fun e w2 ⟨h3, h4⟩ => ⟨h3, bq.trans (h4.mono bq.size), bq.trans (h4.mono bq.size)⟩⟩
            · exact fun W hW => load_tp (tp9.below hW).cells.1
            · exact fun W hW => load_dp (tp9.below hW).cells.2
            · exact fun W hW => load_tp (tp9.below hW).swap.cells.1
            · exact fun W hW => load_dp (tp9.below hW).swap.cells.2
            intro a' w10 b10 he
            subst he
            simp only [Act.put, List.setIfInBounds_toArray, List.set_cons_zero, List.set_cons_succ]
            have HT10 := hidMk (tp9.below b10)
            have HB10 := hidMk (H9.out.2.trans ((bd9.trans b10).mono H9.out.2.size))
            clear tp9 bd9 b10 H9
            go_wp2
            rw [show ((k : Int) + 1) = ((k + 1 : Nat) : Int) by omega]
            refine ⟨⟨k + 1, rfl, by omega, HT10.out, HB10.out⟩, ?_⟩
            show na + nd - ((k + 1 : Nat) : Int).toNat < na + nd - (k : Int).toNat
            omega
          · skip
            go_upto_region 16 with fail
            obtain ⟨o, b, off, hxo, ea, HO⟩ := HOA.out k ha
            subst ea
            have HO2 := hidMk (HO wr HBL.out)
            clear HO
            refine tfork16t x (.slice (some ⟨b, off, none⟩) na ca) (.int .i64 (k : Int)) (.int .i64 (na : Int)) (.pointer (some ⟨b, off + k * 69, none⟩)) (.agg (OpV.c o).toArray) (fun W => TP w.heap.size x t d y t' d' (i + 2 * k + 1) ai (allN L A D) W ∧ Below w.heap.size w W) _ wr _ rfl rfl rfl rfl (fun W => len_ops _ _ _ nA W) (fun W => lss_eg _ _ _ _ W) (fun W => lss_t ha W) HO2.out (HT.out.step HBL.out.size (by omega) o hxo rfl HBL.out) (fun W => ix_op ha (by omega) W) ?_
            intro a' w8 h8 he
            subst he
            simp only [Act.put, List.setIfInBounds_toArray, List.set_cons_zero, List.set_cons_succ]
            have H8 := hidMk h8
            clear h8 HO2 HT HBL
            go_upto_region 18 with fail
            refine tfork18f y (.slice ab nd cb) (.int .i64 (k : Int)) (.int .i64 (nd : Int)) _ w8 _ rfl rfl rfl rfl (fun W => len_ops _ _ _ nD W) (fun W => lss_eg _ _ _ _ W) (fun W => lss_f hb W) ?_
            intro a' w9 h9 he
            obtain rfl : w8 = w9 := h9.symm
            subst he
            simp only [Act.put, List.setIfInBounds_toArray, List.set_cons_zero, List.set_cons_succ]
            have H9 := hidMk (And.intro H8.out.1.up H8.out.2)
            clear h9 H8
            go_upto_region 20 with fail
            have bd9 : Below w8.heap.size w8 w8.drew := (Below.refl _ _).drew
            have tp9 := H9.out.1.below bd9
            refine tfork20 (fun W => Below w8.drew.heap.size w8.drew W) (fun W => Below w8.drew.heap.size w8.drew W) x y (.pointer (some ⟨t, 0, none⟩)) (.pointer (some ⟨d, 0, none⟩)) (.pointer (some ⟨t', 0, none⟩)) (.pointer (some ⟨d', 0, none⟩)) (.slice ai nI ci) _ w8 _ rfl rfl rfl rfl (Below.refl _ _) ?_ ?_ ?_ ?_ ?_ ?_
            · have h1 := tp9.alike (by omega) ci HOK.out (by rw [HNI.out]; exact HIL.out)
              rw [HNI.out] at h1
              refine h1.mono ?_
              rintro e w' ⟨rfl, bq⟩
              have h2 := (tp9.below bq).swap.alike (by omega) ci HOK.out (by rw [HNI.out]; exact HIL.out)
              rw [HNI.out] at h2
              refine ⟨rfl, bq, h2.mono fun e w2 ⟨h3, h4⟩ => ⟨h3, bq.trans (h4.mono bq.size), bq.trans (h4.mono bq.size)⟩⟩
            · exact fun W hW => load_tp (tp9.below hW).cells.1
            · exact fun W hW => load_dp (tp9.below hW).cells.2
            · exact fun W hW => load_tp (tp9.below hW).swap.cells.1
            · exact fun W hW => load_dp (tp9.below hW).swap.cells.2
            intro a' w10 b10 he
            subst he
            simp only [Act.put, List.setIfInBounds_toArray, List.set_cons_zero, List.set_cons_succ]
            have HT10 := hidMk (tp9.below b10)
            have HB10 := hidMk (H9.out.2.trans ((bd9.trans b10).mono H9.out.2.size))
            clear tp9 bd9 b10 H9
            go_wp2
            rw [show ((k : Int) + 1) = ((k + 1 : Nat) : Int) by omega]
            refine ⟨⟨k + 1, rfl, by omega, HT10.out, HB10.out⟩, ?_⟩
            show na + nd - ((k + 1 : Nat) : Int).toNat < na + nd - (k : Int).toNat
            omega
        · by_cases hb : k < nd
          · skip
            go_upto_region 16 with fail
            refine tfork16f x (.slice aa na ca) (.int .i64 (k : Int)) (.int .i64 (na : Int)) _ wr _ rfl rfl rfl rfl (fun W => len_ops _ _ _ nA W) (fun W => lss_eg _ _ _ _ W) (fun W => lss_f ha W) ?_
            intro a' w8 h8 he
            obtain rfl : wr = w8 := h8.symm
            subst he
            simp only [Act.put, List.setIfInBounds_toArray, List.set_cons_zero, List.set_cons_succ]
            have H8 := hidMk (And.intro HT.out.up HBL.out)
            clear h8 HT HBL
            go_upto_region 18 with fail
            obtain ⟨o2, b2, off2, hxo2, ea2, HO⟩ := HOD.out k hb
            subst ea2
            have HO2 := hidMk (HO wr H8.out.2)
            clear HO
            refine tfork18t y (.slice (some ⟨b2, off2, none⟩) nd cb) (.int .i64 (k : Int)) (.int .i64 (nd : Int)) (.pointer (some ⟨b2, off2 + k * 69, none⟩)) (.agg (OpV.c o2).toArray) (fun W => TP w.heap.size y t' d' x t d (i + 2 * k + 1 + 1) ai (allN L A D) W ∧ Below w.heap.size w W) _ wr _ rfl rfl rfl rfl (fun W => len_ops _ _ _ nD W) (fun W => lss_eg _ _ _ _ W) (fun W => lss_t hb W) HO2.out (H8.out.1.swap.step H8.out.2.size (by omega) o2 hxo2 rfl H8.out.2) (fun W => ix_op hb (by omega) W) ?_
            intro a' w9 h9 he
            subst he
            simp only [Act.put, List.setIfInBounds_toArray, List.set_cons_zero, List.set_cons_succ]
            have H9 := hidMk (And.intro h9.1.swap h9.2)
            clear h9 HO2 H8
            go_upto_region 20 with fail
            have bd9 : Below w9.heap.size w9 w9.drew := (Below.refl _ _).drew
            have tp9 := H9.out.1.below bd9
            refine tfork20 (fun W => Below w9.drew.heap.size w9.drew W) (fun W => Below w9.drew.heap.size w9.drew W) x y (.pointer (some ⟨t, 0, none⟩)) (.pointer (some ⟨d, 0, none⟩)) (.pointer (some ⟨t', 0, none⟩)) (.pointer (some ⟨d', 0, none⟩)) (.slice ai nI ci) _ w9 _ rfl rfl rfl rfl (Below.refl _ _) ?_ ?_ ?_ ?_ ?_ ?_
            · have h1 := tp9.alike (by omega) ci HOK.out (by rw [HNI.out]; exact HIL.out)
              rw [HNI.out] at h1
              refine h1.mono ?_
              rintro e w' ⟨rfl, bq⟩
              have h2 := (tp9.below bq).swap.alike (by omega) ci HOK.out (by rw [HNI.out]; exact HIL.out)
              rw [HNI.out] at h2
              refine ⟨rfl, bq, h2.mono fun e w2 ⟨h3, h4⟩ => ⟨h3, bq.trans (h4.mono bq.size), bq.trans (h4.mono bq.size)⟩⟩
            · exact fun W hW => load_tp (tp9.below hW).cells.1
            · exact fun W hW => load_dp (tp9.below hW).cells.2
            · exact fun W hW => load_tp (tp9.below hW).swap.cells.1
            · exact fun W hW => load_dp (tp9.below hW).swap.cells.2
            intro a' w10 b10 he
            subst he
            simp only [Act.put, List.setIfInBounds_toArray, List.set_cons_zero, List.set_cons_succ]
            have HT10 := hidMk (tp9.below b10)
            have HB10 := hidMk (H9.out.2.trans ((bd9.trans b10).mono H9.out.2.size))
            clear tp9 bd9 b10 H9
            go_wp2
            rw [show ((k : Int) + 1) = ((k + 1 : Nat) : Int) by omega]
            refine ⟨⟨k + 1, rfl, by omega, HT10.out, HB10.out⟩, ?_⟩
            show na + nd - ((k + 1 : Nat) : Int).toNat < na + nd - (k : Int).toNat
            omega
          · go_wp2
            go_ret
            exact ⟨rfl, HBL.out⟩
end Go.Proofs.Ytoofljkgdjjllaa
