import Derived.Test.YtoofljkgdjjllabP1
import Derived.Test.YtoofljkgdjjllabP0
import Derived.Test.YtoofljkgdjjllabRg
namespace Go.Proofs.Ytoofljkgdjjllab
open Go.RowKit
set_option linter.unusedVariables false
set_option linter.unusedSimpArgs false
set_option linter.unusedSectionVars false

section
variable (d : Nat) (NL : List RN) (pv : Value) (k u : IdK) (key : ByteArray) (w : World) (h : RefAt w d NL pv) (hk : k.ok) (hu : u.ok) (hn : NL.length ≤ 1300000000000)
include h hk hu hn
set_option maxRecDepth 100000 in
set_option maxHeartbeats 2000000 in
/-- The document's Grow of no Id. -/
theorem rgrow_zero (hz : k = zId) : Calls Try.prog 32 #[.pointer (some ⟨d, 0, none⟩), k.v, u.v, .string key] w fun e w' => e = .returned (.int .i64 2) ∧ Below w.heap.size w w' := by
  have hq : ∀ w : World, (binOp .eql 35 k.v zId.v).run Try.prog w = .ok (.bool true) w := fun w => by rw [eql_id k zId hk zId_ok, decide_eq_true hz]
  clear hz h hn
  unfold IdK.v
  go_enter Try.func32, Try.ntmps32
  go_upto_region 1 with fail
  obtain ⟨hx, hy, bx, zx⟩ := two_boxes w k u
  generalize (w.alloc (.cells k.c.toArray 35)).alloc (.cells u.c.toArray 35) = W at *
  go_wp2_with (first
    | (refine wpList_val rfl (exec_load rfl rfl (load_id hk hx)) ?_)
    | (refine wpList_val rfl (exec_build0 rfl (build_id _)) ?_)
    | (refine wpList_val rfl (exec_binOp rfl rfl rfl (guard_id _ _ k zId _ _) (hq _)) ?_)
    | fail)
  go_ret
  exact ⟨rfl, bx⟩
set_option maxRecDepth 100000 in
set_option maxHeartbeats 2000000 in
/-- The document's Grow of a node that is there. -/
theorem rgrow_known (hz : k ≠ zId) (hh : (lookN NL k).isSome = true) : Calls Try.prog 32 #[.pointer (some ⟨d, 0, none⟩), k.v, u.v, .string key] w fun e w' => e = .returned (.int .i64 5) ∧ Below w.heap.size w w' := by
  have hq : ∀ w : World, (binOp .eql 35 k.v zId.v).run Try.prog w = .ok (.bool false) w := fun w => by rw [eql_id k zId hk zId_ok, decide_eq_false hz]
  have H1 : Hid (∀ W, Below w.heap.size w W → Calls Try.prog 47 #[.pointer (some ⟨d, 0, none⟩), k.v] W fun e w' => e = .returned (.bool true) ∧ Below W.heap.size W w') := fun W b => by
    have := rhas_any d NL pv k W (h.below b) hk hn
    rwa [hh] at this
  clear hz hh h hn
  unfold IdK.v
  go_enter Try.func32, Try.ntmps32
  go_upto_region 1 with fail
  obtain ⟨hx, hy, bx, zx⟩ := two_boxes w k u
  generalize (w.alloc (.cells k.c.toArray 35)).alloc (.cells u.c.toArray 35) = W at *
  go_wp2_with (first
    | (refine wpList_val rfl (exec_load rfl rfl (load_id hk hx)) ?_)
    | (refine wpList_val rfl (exec_build0 rfl (build_id _)) ?_)
    | (refine wpList_val rfl (exec_binOp rfl rfl rfl (guard_id _ _ k zId _ _) (hq _)) ?_)
    | (go_at_call 47; refine (H1.out _ bx).mono ?_; rintro e w' ⟨rfl, b'⟩)
    | fail)
  go_ret
  exact ⟨rfl, bx.trans (b'.mono (by omega))⟩
set_option maxRecDepth 100000 in
set_option maxHeartbeats 2000000 in
/-- The document's Grow under what is not there. -/
theorem rgrow_none (hz : k ≠ zId) (hh : (lookN NL k).isSome = false) (hb : Bears (lookN NL) u = false) : Calls Try.prog 32 #[.pointer (some ⟨d, 0, none⟩), k.v, u.v, .string key] w fun e w' => e = .returned (.int .i64 4) ∧ Below w.heap.size w w' := by
  have hb2 : u ≠ zId ∧ (lookN NL u).isSome = false := by simpa [Bears] using hb
  have hq : ∀ w : World, (binOp .eql 35 k.v zId.v).run Try.prog w = .ok (.bool false) w := fun w => by rw [eql_id k zId hk zId_ok, decide_eq_false hz]
  have hq2 : ∀ w : World, (binOp .neq 35 u.v zId.v).run Try.prog w = .ok (.bool true) w := fun w => by rw [neq_id u zId hu zId_ok, decide_eq_false hb2.1]; rfl
  have H1 : Hid (∀ W, Below w.heap.size w W → Calls Try.prog 47 #[.pointer (some ⟨d, 0, none⟩), k.v] W fun e w' => e = .returned (.bool false) ∧ Below W.heap.size W w') := fun W b => by
    have := rhas_any d NL pv k W (h.below b) hk hn
    rwa [hh] at this
  have H2 : Hid (∀ W, Below w.heap.size w W → Calls Try.prog 47 #[.pointer (some ⟨d, 0, none⟩), u.v] W fun e w' => e = .returned (.bool false) ∧ Below W.heap.size W w') := fun W b => by
    have := rhas_any d NL pv u W (h.below b) hu hn
    rwa [hb2.2] at this
  clear hz hh h hn hb hb2
  unfold IdK.v
  go_enter Try.func32, Try.ntmps32
  go_upto_region 1 with fail
  obtain ⟨hx, hy, bx, zx⟩ := two_boxes w k u
  have ZX := hidMk zx
  clear zx
  generalize (w.alloc (.cells k.c.toArray 35)).alloc (.cells u.c.toArray 35) = W at *
  have HX := hidMk (load_id hk hx)
  go_wp2_with (first
    | (refine wpList_val rfl (exec_load (t := 35) (u := .pointer (some ⟨w.heap.size, 0, none⟩)) rfl rfl HX.out) ?_)
    | (refine wpList_val rfl (exec_load (t := 35) (u := .pointer (some ⟨w.heap.size + 1, 0, none⟩)) rfl rfl HY.out) ?_)
    | (refine wpList_val rfl (exec_build0 rfl (build_id _)) ?_)
    | (refine wpList_val rfl (exec_binOp rfl rfl rfl (guard_id _ _ k zId _ _) (hq _)) ?_)
    | (refine wpList_val rfl (exec_binOp rfl rfl rfl (guard_id _ _ u zId _ _) (hq2 _)) ?_)
    | (go_at_call 47; refine (H1.out _ bx).mono ?_; rintro e w1 ⟨rfl, b1⟩; have HY := hidMk (load_id hu ((b1.block _ (by have := ZX.out; omega)).trans hy)); clear H1)
    | (go_at_call 47; refine (H2.out _ (bx.trans (b1.mono bx.size))).mono ?_; rintro e w2 ⟨rfl, b2⟩)
    | fail)
  go_ret
  have c1 := bx.trans (b1.mono bx.size)
  exact ⟨rfl, c1.trans (b2.mono c1.size)⟩
end
end Go.Proofs.Ytoofljkgdjjllab

namespace Go.Proofs.Ytoofljkgdjjllab
open Go.RowKit
set_option linter.unusedVariables false
set_option linter.unusedSimpArgs false

section
variable {B : Nat} {w : World} {d : Nat} {NL : List RN} {PL : List (List RN)} {vn vp : Value} {us : List Value}
/-- Other nodes in the document's tree, its past as it was. -/
theorem RefP.nodes' (h : RefP B w d NL PL vn vp us) {W : World} {qv : Value} {NL' : List RN} (t : Tch (fun j => j = d ∨ vn.ownBlock = some j) w W) (hc : W.heap[d]? = some (.cells #[qv, vp] 98 (0, 0))) (ho : OwnN W B qv NL')
    (hq : ∀ j, qv.ownBlock = some j → vn.ownBlock = some j ∨ w.heap.size ≤ j) (ok : ∀ p ∈ NL', RnOk p) (nd : (NL'.map (·.1)).Nodup) : RefP B W d NL' PL qv vp us ∧ (∀ j, refB d qv vp us j → refB d vn vp us j ∨ w.heap.size ≤ j) := by
  have lu : ∀ (i : Nat) u j, us[i]? = some u → u.ownBlock = some j → j < w.heap.size := fun i u j hu hj => (h.ge j (Or.inr (Or.inr (Or.inr ⟨i, u, hu, hj⟩)))).2
  refine ⟨⟨hc, ho, h.past.keep fun j hj => t.block j ?_ ?_, h.len, fun i u P hu hP => (h.lists i u P hu hP).keep fun j hj => t.block j (lu i u j hu hj) ?_, h.dB, fun i u j hu hj => ?_, h.ap2, ok, h.okP, nd, h.ndP⟩, fun j hj => ?_⟩
  · obtain ⟨_, c, q⟩ := h.past.ge j hj; exact (Array.getElem?_eq_some_iff.1 q).1
  · rintro (rfl | q)
    · exact past_not h.cell h.past hj
    · exact nodes_past h.nodes h.past q hj
  · rintro (rfl | q)
    · exact nodes_not h.cell (h.lists i u P hu hP) hj
    · exact h.ap i u j hu hj q
  · intro q
    rcases hq j q with e | e
    · exact h.ap i u j hu hj e
    · have := lu i u j hu hj; omega
  · rcases hj with rfl | q | q | q
    · exact Or.inl (Or.inl rfl)
    · rcases hq j q with e | e
      · exact Or.inl (Or.inr (Or.inl e))
      · exact Or.inr e
    · exact Or.inl (Or.inr (Or.inr (Or.inl q)))
    · exact Or.inl (Or.inr (Or.inr (Or.inr q)))
/-- A node more, as equations. -/
theorem more_runs (h : RefP B w d NL PL vn vp us) (hB : B ≤ w.heap.size) (hn : NL.length ≤ 1300000000000) (p : RN) (hp : RnOk p) (hk : p.1 ∉ NL.map (·.1)) :
    ∃ (lv qv : Value) (w1 w2 : World), (Instr.buildSlice 95 1 #[(0, .agg (rnC p).toArray)]).run Try.prog w = .ok lv w1 ∧ (Builtin.append_ #[95, 95] 95 #[vn, lv]).run Try.prog w1 = .ok qv w2 ∧
      (Instr.storeAt 95 (.pointer (some ⟨d, 0, none⟩)) qv).run Try.prog w2 = .ok () (w2.setCell ⟨d, 0, none⟩ qv) ∧ Below w.heap.size w w1 ∧ Tch (fun j => vn.ownBlock = some j) w w2 ∧ Tch (fun j => j = d ∨ vn.ownBlock = some j) w (w2.setCell ⟨d, 0, none⟩ qv) ∧
      RefP B (w2.setCell ⟨d, 0, none⟩ qv) d (NL ++ [p]) PL qv vp us ∧ (∀ j, refB d qv vp us j → refB d vn vp us j ∨ w.heap.size ≤ j) := by
  have ld := (Array.getElem?_eq_some_iff.1 h.cell).1
  have e1 := run_bsN p hp w
  have r1 := rns_lit w p 100
  have b1 : Below w.heap.size w (w.alloc (.cells (rnC p).toArray 100)) := (Below.refl _ _).alloc (Nat.le_refl _) _
  generalize w.alloc (.cells (rnC p).toArray 100) = w1 at *
  have z1 := b1.size
  obtain ⟨qv, w2, e2, own2, g2, o2⟩ := run_appN w1 B vn NL _ [p] 1 (h.nodes.below b1) r1 (by simpa using hp) (by simp; omega) (by omega)
  have t2 : Tch (fun j => vn.ownBlock = some j) w w2 := Tch.trans ⟨b1.os, b1.tape, b1.output, b1.size, fun j hj _ => b1.block j hj⟩ ⟨g2.os, g2.tape, g2.output, g2.size, fun j hj hO => g2.block j hj (fun q => hO q.symm)⟩
  have hd2 : w2.heap[d]? = some (.cells #[vn, vp] 98 (0, 0)) := (t2.block d ld (nodes_not h.cell h.nodes)).trans h.cell
  have okN : ∀ x ∈ NL ++ [p], RnOk x := fun x hx => by
    rcases List.mem_append.1 hx with q | q
    · exact h.ok x q
    · simp at q; subst q; exact hp
  obtain ⟨a2, c2, eqv, _⟩ := own2.open okN
  have es := store_ref0 a2 (NL ++ [p]).length c2 hd2
  rw [← eqv] at es
  have ts := set_tch w2 d 0 qv
  have t3 : Tch (fun j => j = d ∨ vn.ownBlock = some j) w (w2.setCell ⟨d, 0, none⟩ qv) := (t2.mono fun k _ q => Or.inr q).trans (ts.mono fun k _ q => Or.inl q)
  have oqv : ∀ j, qv.ownBlock = some j → vn.ownBlock = some j ∨ w.heap.size ≤ j := by
    intro j hj
    rcases o2 with q | q
    · exact Or.inl (by rw [← q]; exact hj)
    · rw [q] at hj; simp at hj; exact Or.inr (by omega)
  have own3 : OwnN (w2.setCell ⟨d, 0, none⟩ qv) B qv (NL ++ [p]) := own2.keep fun j hj => ts.block j (by obtain ⟨_, c, q⟩ := own2.ge j hj; exact (Array.getElem?_eq_some_iff.1 q).1) (fun e => nodes_not hd2 own2 (by rw [← e]; exact hj))
  obtain ⟨hr, hb⟩ := h.nodes' t3 (set_ref0 hd2 qv) own3 oqv okN (by
    rw [List.map_append, List.nodup_append]
    refine ⟨h.nd, by simp, fun a ha b hb e => ?_⟩
    simp at hb
    subst hb e
    exact hk ha)
  exact ⟨_, qv, w1, w2, e1, e2, es, b1, t2, t3, hr, hb⟩
/-- Another node in one's place, as equations. -/
theorem other_runs (h : RefP B w d NL PL vn vp us) (i : Nat) (hi : i < NL.length) (p : RN) (hp : RnOk p) (hk : (NL.map (·.1))[i]? = some p.1) :
    ∃ g c w1, vn = .slice (some ⟨g, 0, none⟩) NL.length c ∧ (Instr.storeAt 100 (.pointer (some ⟨g, i * 68, none⟩)) (.agg (rnC p).toArray)).run Try.prog w = .ok () w1 ∧ Tch (fun j => vn.ownBlock = some j) w w1 ∧ RefP B w1 d (NL.set i p) PL vn vp us := by
  obtain ⟨g, c, e, hg, w1, e1, own1, t1, z1⟩ := own_setN h.nodes h.ok hi hp
  have ld := (Array.getElem?_eq_some_iff.1 h.cell).1
  refine ⟨g, c, w1, e, e1, t1, (h.nodes' (t1.mono fun k _ q => Or.inr q) ((t1.block d ld (nodes_not h.cell h.nodes)).trans h.cell) own1 (fun j hj => Or.inl hj) (fun x hx => ?_) ?_).1⟩
  · rcases List.mem_or_eq_of_mem_set hx with q | rfl
    · exact h.ok x q
    · exact hp
  · have : (NL.set i p).map (·.1) = NL.map (·.1) := by
      rw [List.map_set]
      obtain ⟨hl, hv⟩ := List.getElem?_eq_some_iff.1 hk
      rw [← hv, List.set_getElem_self]
    rw [this]
    exact h.nd
end
/-- What a step of the document's tree gives. -/
def RStep (B : Nat) (w : World) (d : Nat) (NL : List RN) (PL : List (List RN)) (vn vp : Value) (us : List Value) (k : IdK) (n : NodeV) (c : Int) (e : Ending) (w' : World) : Prop :=
  (c ≠ 0 ∧ e = .returned (.int .i64 c) ∧ Below w.heap.size w w') ∨ (c = 0 ∧ e = .returned (.int .i64 0) ∧ ∃ vn' vp' us', RefP B w' d (M.put NL k n) (PL ++ [NL]) vn' vp' us' ∧ Tch (fun j => refB d vn vp us j) w w' ∧ ∀ j, refB d vn' vp' us' j → refB d vn vp us j ∨ w.heap.size ≤ j)
theorem put_none {NL : List RN} {k : IdK} (h : lookN NL k = none) (n : NodeV) : M.put NL k n = NL ++ [(k, n)] := by
  unfold M.put
  cases hf : M.fnd NL k 0 with
  | none => rfl
  | some q => unfold lookN M.look at h; rw [hf] at h; cases h
theorem put_some {NL : List RN} {k : IdK} {m : NodeV} (h : lookN NL k = some m) (n : NodeV) : ∃ j : Nat, fPos NL k = (j : Int) ∧ NL[j]? = some (k, m) ∧ j < NL.length ∧ M.put NL k n = NL.set j (k, n) := by
  unfold M.put fPos
  unfold lookN M.look at h
  cases hf : M.fnd NL k 0 with
  | none => rw [hf] at h; cases h
  | some q =>
    obtain ⟨j, m'⟩ := q
    rw [hf] at h
    cases h
    have := M.fnd_some hf
    exact ⟨j, rfl, this.1, this.2, rfl⟩
theorem look_no {NL : List RN} {k : IdK} (h : lookN NL k = none) : k ∉ NL.map (·.1) := by
  intro hm
  obtain ⟨p, hp, e⟩ := List.mem_map.1 hm
  unfold lookN M.look at h
  cases hf : M.fnd NL k 0 with
  | some q => rw [hf] at h; cases h
  | none =>
    clear h hm
    have : ∀ (E : List RN) (i : Nat), M.fnd E k i = none → ∀ p ∈ E, p.1 ≠ k := by
      intro E
      induction E with
      | nil => intro i _ p hp; cases hp
      | cons q E ih =>
        intro i hq p hp
        unfold M.fnd at hq
        split at hq
        · cases hq
        · next hne =>
          rcases List.mem_cons.1 hp with rfl | hp
          · exact fun e => hne e.symm
          · exact ih _ hq p hp
    exact this NL 0 hf p hp e
end Go.Proofs.Ytoofljkgdjjllab

namespace Go.Proofs.Ytoofljkgdjjllab
open Go.RowKit
set_option linter.unusedVariables false
set_option linter.unusedSimpArgs false
set_option linter.unusedSectionVars false

set_option maxRecDepth 100000 in
theorem build_rn0 (w : World) (a0 a1 a2 a3 a4 a5 a6 a7 a8 a9 a10 a11 a12 a13 a14 a15 a16 a17 a18 a19 a20 a21 a22 a23 a24 a25 a26 a27 a28 a29 a30 a31 a32 b0 b1 b2 b3 b4 b5 b6 b7 b8 b9 b10 b11 b12 b13 b14 b15 b16 b17 b18 b19 b20 b21 b22 b23 b24 b25 b26 b27 b28 b29 b30 b31 b32 : Value) (key : ByteArray) : (Instr.build 100 #[(0, .agg [a0, a1, a2, a3, a4, a5, a6, a7, a8, a9, a10, a11, a12, a13, a14, a15, a16, a17, a18, a19, a20, a21, a22, a23, a24, a25, a26, a27, a28, a29, a30, a31, a32].toArray), (1, .agg [b0, b1, b2, b3, b4, b5, b6, b7, b8, b9, b10, b11, b12, b13, b14, b15, b16, b17, b18, b19, b20, b21, b22, b23, b24, b25, b26, b27, b28, b29, b30, b31, b32].toArray), (2, .string key)]).run Try.prog w = .ok (.agg ([a0, a1, a2, a3, a4, a5, a6, a7, a8, a9, a10, a11, a12, a13, a14, a15, a16, a17, a18, a19, a20, a21, a22, a23, a24, a25, a26, a27, a28, a29, a30, a31, a32] ++ ([b0, b1, b2, b3, b4, b5, b6, b7, b8, b9, b10, b11, b12, b13, b14, b15, b16, b17, b18, b19, b20, b21, b22, b23, b24, b25, b26, b27, b28, b29, b30, b31, b32] ++ [Value.string key, Value.bool false])).toArray) w := by kernel_rfl
set_option maxRecDepth 100000 in
theorem build_rn (w : World) (k u : IdK) (hk : k.ok) (hu : u.ok) (key : ByteArray) : (Instr.build 100 #[(0, k.v), (1, u.v), (2, .string key)]).run Try.prog w = .ok (.agg (rnC (k, ⟨u, key, false⟩)).toArray) w := by
  have h := IdK.len hk
  have h2 := IdK.len hu
  unfold rnC IdK.v
  simp only
  generalize k.c = l at *
  generalize u.c = l2 at *
  match l, h, l2, h2 with
  | a0 :: a1 :: a2 :: a3 :: a4 :: a5 :: a6 :: a7 :: a8 :: a9 :: a10 :: a11 :: a12 :: a13 :: a14 :: a15 :: a16 :: a17 :: a18 :: a19 :: a20 :: a21 :: a22 :: a23 :: a24 :: a25 :: a26 :: a27 :: a28 :: a29 :: a30 :: a31 :: a32 :: [], _, b0 :: b1 :: b2 :: b3 :: b4 :: b5 :: b6 :: b7 :: b8 :: b9 :: b10 :: b11 :: b12 :: b13 :: b14 :: b15 :: b16 :: b17 :: b18 :: b19 :: b20 :: b21 :: b22 :: b23 :: b24 :: b25 :: b26 :: b27 :: b28 :: b29 :: b30 :: b31 :: b32 :: [], _ => exact build_rn0 w a0 a1 a2 a3 a4 a5 a6 a7 a8 a9 a10 a11 a12 a13 a14 a15 a16 a17 a18 a19 a20 a21 a22 a23 a24 a25 a26 a27 a28 a29 a30 a31 a32 b0 b1 b2 b3 b4 b5 b6 b7 b8 b9 b10 b11 b12 b13 b14 b15 b16 b17 b18 b19 b20 b21 b22 b23 b24 b25 b26 b27 b28 b29 b30 b31 b32 key
set_option maxRecDepth 100000 in
theorem build_rp0 (w : World) (a0 a1 a2 a3 a4 a5 a6 a7 a8 a9 a10 a11 a12 a13 a14 a15 a16 a17 a18 a19 a20 a21 a22 a23 a24 a25 a26 a27 a28 a29 a30 a31 a32 : Value) : (Instr.build 100 #[(0, .agg [a0, a1, a2, a3, a4, a5, a6, a7, a8, a9, a10, a11, a12, a13, a14, a15, a16, a17, a18, a19, a20, a21, a22, a23, a24, a25, a26, a27, a28, a29, a30, a31, a32].toArray), (3, .bool true)]).run Try.prog w = .ok (.agg ([a0, a1, a2, a3, a4, a5, a6, a7, a8, a9, a10, a11, a12, a13, a14, a15, a16, a17, a18, a19, a20, a21, a22, a23, a24, a25, a26, a27, a28, a29, a30, a31, a32] ++ (zId.c ++ [Value.string ⟨#[]⟩, Value.bool true])).toArray) w := by kernel_rfl
set_option maxRecDepth 100000 in
theorem build_rp (w : World) (k : IdK) (hk : k.ok) : (Instr.build 100 #[(0, k.v), (3, .bool true)]).run Try.prog w = .ok (.agg (rnC (k, ⟨zId, ⟨#[]⟩, true⟩)).toArray) w := by
  have h := IdK.len hk
  unfold rnC IdK.v
  simp only
  generalize k.c = l at *
  match l, h with
  | a0 :: a1 :: a2 :: a3 :: a4 :: a5 :: a6 :: a7 :: a8 :: a9 :: a10 :: a11 :: a12 :: a13 :: a14 :: a15 :: a16 :: a17 :: a18 :: a19 :: a20 :: a21 :: a22 :: a23 :: a24 :: a25 :: a26 :: a27 :: a28 :: a29 :: a30 :: a31 :: a32 :: [], _ => exact build_rp0 w a0 a1 a2 a3 a4 a5 a6 a7 a8 a9 a10 a11 a12 a13 a14 a15 a16 a17 a18 a19 a20 a21 a22 a23 a24 a25 a26 a27 a28 a29 a30 a31 a32

theorem tch_mark {B : Nat} {w w2 : World} {d : Nat} {NL : List RN} {PL : List (List RN)} {vn vp : Value} {us : List Value} (h : RefP B w d NL PL vn vp us) (b2 : Below w.heap.size w w2) {w3 : World} (t : Tch (fun j => j = d ∨ vp.ownBlock = some j) w2 w3) {j : Nat} (hj : w.heap.size ≤ j) (hl : j < w2.heap.size) : w3.heap[j]? = w2.heap[j]? := by
  refine t.block j hl ?_
  rintro (rfl | q)
  · have := (h.ge j (Or.inl rfl)).2; omega
  · have := (h.ge j (Or.inr (Or.inr (Or.inl q)))).2; omega
section
variable {B : Nat} {w : World} {d : Nat} {NL : List RN} {PL : List (List RN)} {vn vp : Value} {us : List Value} (h : RefP B w d NL PL vn vp us) (hB : B ≤ w.heap.size) (hn : NL.length ≤ 1300000000000) (hp : PL.length ≤ 1300000000000) (k u : IdK) (key : ByteArray) (hk : k.ok) (hu : u.ok)
include h hB hn hp hk hu
/-- What Grow's last region does. -/
theorem grow_tail (hh : lookN NL k = none) {w2 w3 : World} {qv cv : Value} (b2 : Below w.heap.size w w2) (hx : IdAt w2 w.heap.size k) (hy : IdAt w2 (w.heap.size + 1) u) (hr : RefP B w3 d NL (PL ++ [NL]) vn qv (us ++ [cv])) (t : Tch (fun j => j = d ∨ vp.ownBlock = some j) w2 w3)
    (hb : ∀ j, refB d vn qv (us ++ [cv]) j → refB d vn vp us j ∨ w2.heap.size ≤ j) :
    ∃ (lv rv : Value) (w4 w5 w6 : World), (Instr.buildSlice 95 1 #[(0, .agg (rnC (k, ⟨u, key, false⟩)).toArray)]).run Try.prog w3.drew = .ok lv w4 ∧ (Builtin.append_ #[95, 95] 95 #[vn, lv]).run Try.prog w4 = .ok rv w5 ∧ (Instr.storeAt 95 (.pointer (some ⟨d, 0, none⟩)) rv).run Try.prog w5 = .ok () w6 ∧
      (∀ W, W = w3.drew ∨ W = w4 ∨ W = w5 ∨ W = w6 → IdAt W w.heap.size k ∧ IdAt W (w.heap.size + 1) u) ∧ (∀ W, W = w3.drew ∨ W = w4 → W.cell? ⟨d, 0, none⟩ = some vn) ∧ RStep B w d NL PL vn vp us k ⟨u, key, false⟩ 0 (.returned (.int .i64 0)) w6 := by
  have z2 := b2.size
  have z3 := t.size
  have l1 : w.heap.size + 1 < w2.heap.size := (Array.getElem?_eq_some_iff.1 hy).1
  have hx3 : IdAt w3 w.heap.size k := (tch_mark h b2 t (Nat.le_refl _) (by omega)).trans hx
  have hy3 : IdAt w3 (w.heap.size + 1) u := (tch_mark h b2 t (by omega) l1).trans hy
  have bd : Below w3.heap.size w3 w3.drew := (Below.refl _ _).drew
  have hrd := hr.below bd
  obtain ⟨lv, rv, w4, w5, e1, e2, e3, b4, t5, t6, hr6, hb6⟩ := more_runs hrd (show B ≤ w3.drew.heap.size by have : w3.drew.heap.size = w3.heap.size := rfl; omega) hn (k, ⟨u, key, false⟩) ⟨hk, hu⟩ (look_no hh)
  have zd : w3.drew.heap.size = w3.heap.size := rfl
  have nb : ∀ j, w.heap.size ≤ j → j < w2.heap.size → ¬ (j = d ∨ vn.ownBlock = some j) := by
    rintro j h1 h2 (rfl | q)
    · have := (h.ge j (Or.inl rfl)).2; omega
    · have := (h.ge j (Or.inr (Or.inl q))).2; omega
  have k5 : ∀ j, w.heap.size ≤ j → j < w2.heap.size → w5.heap[j]? = w3.drew.heap[j]? := fun j h1 h2 => t5.block j (by omega) (fun q => nb j h1 h2 (Or.inr q))
  have k6 : ∀ j, w.heap.size ≤ j → j < w2.heap.size → (w5.setCell ⟨d, 0, none⟩ rv).heap[j]? = w3.drew.heap[j]? := fun j h1 h2 => t6.block j (by omega) (nb j h1 h2)
  have hd : w3.drew.cell? ⟨d, 0, none⟩ = some vn := by rw [cell_of_row _ _ 0 _ _ _ hrd.cell]; rfl
  have ld := (Array.getElem?_eq_some_iff.1 hrd.cell).1
  have l0 := (h.ge d (Or.inl rfl)).2
  refine ⟨lv, rv, w4, w5, _, e1, e2, e3, ?_, ?_, Or.inr ⟨rfl, rfl, rv, qv, us ++ [cv], by rw [put_none hh]; exact hr6, ?_, fun j hj => ?_⟩⟩
  · rintro W (rfl | rfl | rfl | rfl)
    · exact ⟨hx3, hy3⟩
    · exact ⟨(b4.block _ (by omega)).trans hx3, (b4.block _ (by omega)).trans hy3⟩
    · exact ⟨(k5 _ (Nat.le_refl _) (by omega)).trans hx3, (k5 _ (by omega) l1).trans hy3⟩
    · exact ⟨(k6 _ (Nat.le_refl _) (by omega)).trans hx3, (k6 _ (by omega) l1).trans hy3⟩
  · rintro W (rfl | rfl)
    · exact hd
    · exact (b4.cell (p := ⟨d, 0, none⟩) ld).trans hd
  · have t0 : Tch (fun j => refB d vn vp us j) w w2 := ⟨b2.os, b2.tape, b2.output, b2.size, fun j hj _ => b2.block j hj⟩
    refine (t0.trans' (O' := fun j => j = d ∨ vp.ownBlock = some j) t fun i _ q => ?_).trans' (O' := fun j => j = d ∨ vn.ownBlock = some j) (Tch.trans ((Tch.refl _ w3).drew) t6) fun i _ q => ?_
    · rcases q with q | q
      · exact Or.inl q
      · exact Or.inr (Or.inr (Or.inl q))
    · rcases q with q | q
      · exact Or.inl q
      · exact Or.inr (Or.inl q)
  · rcases hb6 j hj with q | q
    · rcases hb j q with q | q
      · exact Or.inl q
      · exact Or.inr (by omega)
    · exact Or.inr (by omega)
set_option maxRecDepth 100000 in
set_option maxHeartbeats 4000000 in
/-- The document's Grow that is done. -/
theorem rgrow_ok (hz : k ≠ zId) (hh : lookN NL k = none) (hb : Bears (lookN NL) u = true) : Calls Try.prog 32 #[.pointer (some ⟨d, 0, none⟩), k.v, u.v, .string key] w (RStep B w d NL PL vn vp us k ⟨u, key, false⟩ 0) := by
  have hq : ∀ w : World, (binOp .eql 35 k.v zId.v).run Try.prog w = .ok (.bool false) w := fun w => by rw [eql_id k zId hk zId_ok, decide_eq_false hz]
  have hq2 : ∀ w : World, (binOp .neq 35 u.v zId.v).run Try.prog w = .ok (.bool (!decide (u = zId))) w := fun w => neq_id u zId hu zId_ok w
  have H1 : Hid (∀ W, Below w.heap.size w W → Calls Try.prog 47 #[.pointer (some ⟨d, 0, none⟩), k.v] W fun e w' => e = .returned (.bool false) ∧ Below W.heap.size W w') := fun W b => by
    have := rhas_any d NL vp k W (h.ref.below b) hk hn
    rwa [hh] at this
  have HM := hidMk (fun (W : World) (b : Below w.heap.size w W) => mark_any (h.below b) (Nat.le_trans hB b.size) hn hp)
  have HT := hidMk (fun (w2 w3 : World) (qv cv : Value) => grow_tail (w2 := w2) (w3 := w3) (qv := qv) (cv := cv) h hB hn hp k u key hk hu hh)
  have HU : Hid (u ≠ zId → ∀ W, Below w.heap.size w W → Calls Try.prog 47 #[.pointer (some ⟨d, 0, none⟩), u.v] W fun e w' => e = .returned (.bool true) ∧ Below W.heap.size W w') := fun hne W b => by
    have := rhas_any d NL vp u W (h.ref.below b) hu hn
    rcases bears_iff.1 hb with q | q
    · exact absurd q hne
    · rwa [q] at this
  clear hz hh hb hn hp hB h
  unfold IdK.v
  go_enter Try.func32, Try.ntmps32
  go_upto_region 1 with fail
  obtain ⟨hx, hy, bx, zx⟩ := two_boxes w k u
  have ZX := hidMk zx
  clear zx
  generalize (w.alloc (.cells k.c.toArray 35)).alloc (.cells u.c.toArray 35) = W at *
  have HX := hidMk (load_id hk hx)
  have HXI := hidMk hx
  have HYI := hidMk hy
  clear hx hy
  by_cases uz : u = zId
  · rw [decide_eq_true uz] at hq2
    simp only [Bool.not_true] at hq2
    clear uz
    go_upto_region 10 with (first
      | (refine wpList_val rfl (exec_load (t := 35) (u := .pointer (some ⟨w.heap.size, 0, none⟩)) rfl rfl HX.out) ?_)
      | (refine wpList_val rfl (exec_load (t := 35) (u := .pointer (some ⟨w.heap.size + 1, 0, none⟩)) rfl rfl HY.out) ?_)
      | (refine wpList_val rfl (exec_build0 rfl (build_id _)) ?_)
      | (refine wpList_val rfl (exec_binOp rfl rfl rfl (guard_id _ _ k zId _ _) (hq _)) ?_)
      | (refine wpList_val rfl (exec_binOp rfl rfl rfl (guard_id _ _ u zId _ _) (hq2 _)) ?_)
      | (go_at_call 47; refine (H1.out _ bx).mono ?_; rintro e w1 ⟨rfl, b1⟩; have HY := hidMk (load_id hu ((b1.block _ (by have := ZX.out; omega)).trans HYI.out)); have c1 := bx.trans (b1.mono bx.size); clear H1)
      | (go_at_call 48; refine (HM.out _ c1).mono ?_; rintro e w3 ⟨rfl, qv, cv, hr, t3, hb3⟩)
      | fail)
    have HXX := hidMk ((b1.block _ (by have := ZX.out; omega)).trans HXI.out)
    have HYY := hidMk ((b1.block _ (by have := ZX.out; omega)).trans HYI.out)
    obtain ⟨lv, rv, w4, w5, w6, e1, e2, e3, hS, hN, fin⟩ := HT.out w1 w3 qv cv c1 HXX.out HYY.out hr t3 hb3
    have z3 := t3.size
    obtain ⟨an, cn, en, _⟩ := hr.nodes.open hr.ok
    refine rgrow10 d (.pointer (some ⟨d, 0, none⟩)) (.pointer (some ⟨w.heap.size, 0, none⟩)) (.pointer (some ⟨w.heap.size + 1, 0, none⟩)) k.v u.v (.string key) (.agg (rnC (k, ⟨u, key, false⟩)).toArray) vn lv rv w4 w5 w6 (fun W => IdAt W w.heap.size k ∧ IdAt W (w.heap.size + 1) u) _ w3 _ rfl rfl rfl rfl rfl (fun W => by go_simp) (fun W => build_rn W k u hk hu key) (fun W hw => load_id hk hw.1) (fun W hw => load_id hu hw.2) (hS _ (Or.inl rfl)) (hS _ (Or.inr (Or.inl rfl))) (hS _ (Or.inr (Or.inr (Or.inl rfl)))) (hS _ (Or.inr (Or.inr (Or.inr rfl)))) (load_ns (hN _ (Or.inl rfl))) (load_ns (hN _ (Or.inr rfl))) e1 e2 e3 ?_ ?_
    all_goals
      intro a' w' hw' ha
      subst hw' ha
      simp only [Act.put, List.setIfInBounds_toArray, List.set_cons_zero, List.set_cons_succ]
      go_wp2
      go_ret
      exact fin
  · rw [decide_eq_false uz] at hq2
    simp only [Bool.not_false] at hq2
    have H2 := hidMk (HU.out uz)
    clear uz
    go_upto_region 10 with (first
      | (refine wpList_val rfl (exec_load (t := 35) (u := .pointer (some ⟨w.heap.size, 0, none⟩)) rfl rfl HX.out) ?_)
      | (refine wpList_val rfl (exec_load (t := 35) (u := .pointer (some ⟨w.heap.size + 1, 0, none⟩)) rfl rfl HY.out) ?_)
      | (refine wpList_val rfl (exec_build0 rfl (build_id _)) ?_)
      | (refine wpList_val rfl (exec_binOp rfl rfl rfl (guard_id _ _ k zId _ _) (hq _)) ?_)
      | (refine wpList_val rfl (exec_binOp rfl rfl rfl (guard_id _ _ u zId _ _) (hq2 _)) ?_)
      | (go_at_call 47; refine (H1.out _ bx).mono ?_; rintro e w1 ⟨rfl, b1⟩; have HY := hidMk (load_id hu ((b1.block _ (by have := ZX.out; omega)).trans HYI.out)); have c1 := bx.trans (b1.mono bx.size); clear H1)
      | (go_at_call 47; refine (H2.out _ c1).mono ?_; rintro e w2 ⟨rfl, b2⟩; have c2 := c1.trans (b2.mono c1.size); clear H2)
      | (go_at_call 48; refine (HM.out _ c2).mono ?_; rintro e w3 ⟨rfl, qv, cv, hr, t3, hb3⟩)
      | fail)
    have HXX := hidMk ((b2.block _ (by have := ZX.out; have := b1.size; omega)).trans ((b1.block _ (by have := ZX.out; omega)).trans HXI.out))
    have HYY := hidMk ((b2.block _ (by have := ZX.out; have := b1.size; omega)).trans ((b1.block _ (by have := ZX.out; omega)).trans HYI.out))
    obtain ⟨lv, rv, w4, w5, w6, e1, e2, e3, hS, hN, fin⟩ := HT.out w2 w3 qv cv c2 HXX.out HYY.out hr t3 hb3
    have z3 := t3.size
    obtain ⟨an, cn, en, _⟩ := hr.nodes.open hr.ok
    refine rgrow10 d (.pointer (some ⟨d, 0, none⟩)) (.pointer (some ⟨w.heap.size, 0, none⟩)) (.pointer (some ⟨w.heap.size + 1, 0, none⟩)) k.v u.v (.string key) (.agg (rnC (k, ⟨u, key, false⟩)).toArray) vn lv rv w4 w5 w6 (fun W => IdAt W w.heap.size k ∧ IdAt W (w.heap.size + 1) u) _ w3 _ rfl rfl rfl rfl rfl (fun W => by go_simp) (fun W => build_rn W k u hk hu key) (fun W hw => load_id hk hw.1) (fun W hw => load_id hu hw.2) (hS _ (Or.inl rfl)) (hS _ (Or.inr (Or.inl rfl))) (hS _ (Or.inr (Or.inr (Or.inl rfl)))) (hS _ (Or.inr (Or.inr (Or.inr rfl)))) (load_ns (hN _ (Or.inl rfl))) (load_ns (hN _ (Or.inr rfl))) e1 e2 e3 ?_ ?_
    all_goals
      intro a' w' hw' ha
      subst hw' ha
      simp only [Act.put, List.setIfInBounds_toArray, List.set_cons_zero, List.set_cons_succ]
      go_wp2
      go_ret
      exact fin
end
end Go.Proofs.Ytoofljkgdjjllab

namespace Go.Proofs.Ytoofljkgdjjllab
open Go.RowKit
set_option linter.unusedVariables false
set_option linter.unusedSimpArgs false
set_option linter.unusedSectionVars false

section
variable {B : Nat} {w : World} {d : Nat} {NL : List RN} {PL : List (List RN)} {vn vp : Value} {us : List Value} (h : RefP B w d NL PL vn vp us) (hB : B ≤ w.heap.size) (hn : NL.length ≤ 1300000000000) (hp : PL.length ≤ 1300000000000) (k : IdK) (hk : k.ok)
include h hB hn hp hk
variable (u : IdK) (key : ByteArray) (hu : u.ok)
include hu
/-- The document's Grow. -/
theorem rgrow_all : Calls Try.prog 32 #[.pointer (some ⟨d, 0, none⟩), k.v, u.v, .string key] w (RStep B w d NL PL vn vp us k ⟨u, key, false⟩ (gC (lookN NL) k u)) := by
  unfold gC
  by_cases hz : k = zId
  · rw [if_pos hz]
    exact (rgrow_zero d NL vp k u key w h.ref hk hu hn hz).mono fun e w' q => Or.inl ⟨by decide, q.1, q.2⟩
  · rw [if_neg hz]
    cases hl : lookN NL k with
    | some m =>
      rw [if_pos (by rfl)]
      exact (rgrow_known d NL vp k u key w h.ref hk hu hn hz (by rw [hl]; rfl)).mono fun e w' q => Or.inl ⟨by decide, q.1, q.2⟩
    | none =>
      rw [if_neg (by simp)]
      cases hb : Bears (lookN NL) u with
      | true =>
        rw [if_pos rfl]
        exact rgrow_ok h hB hn hp k u key hk hu hz hl hb
      | false =>
        rw [if_neg (by decide)]
        exact (rgrow_none d NL vp k u key w h.ref hk hu hn hz (by rw [hl]; rfl) hb).mono fun e w' q => Or.inl ⟨by decide, q.1, q.2⟩
end
end Go.Proofs.Ytoofljkgdjjllab

namespace Go.Proofs.Ytoofljkgdjjllab
open Go.RowKit
set_option linter.unusedVariables false
set_option linter.unusedSimpArgs false

/-- Steps that were done one behind the other, the last one first: what lay there ahead of them. -/
inductive Chain : List Rec → Fn → Fn → Prop
  | nil {f : Fn} : Chain [] f f
  | step {r : Rec} {t : List Rec} {f' f : Fn} : Forest (upd f' r.k r.o) → Chain t (upd f' r.k r.o) f → Chain (r :: t) f' f
theorem upd_back {f : Fn} {k : IdK} {n : Option NodeV} : upd (upd f k n) k (f k) = f := by
  funext x
  by_cases e : x = k
  · subst e; rw [upd_same]
  · rw [upd_ne e, upd_ne e]
/-- Who is there behind some calls. -/
def presS (P : IdK → Bool) (o : OpV) : IdK → Bool := if o.kind = 0 ∧ o.id ≠ zId ∧ P o.id = false ∧ (o.under = zId ∨ P o.under = true) then fun x => if x = o.id then true else P x else P
def presN (P : IdK → Bool) (L : List OpV) : IdK → Bool := L.foldl presS P
theorem presN_snoc (P : IdK → Bool) (L : List OpV) (o : OpV) : presN P (L ++ [o]) = presS (presN P L) o := by simp [presN]
theorem pres_take {P : IdK → Bool} {L : List OpV} {i : Nat} {o : OpV} (h : L[i]? = some o) : presN P (L.take (i + 1)) = presS (presN P (L.take i)) o := by
  rw [List.take_add_one, h, Option.toList_some, presN_snoc]
theorem gC_zero {f : Fn} {k u : IdK} : gC f k u = 0 ↔ k ≠ zId ∧ (f k).isSome = false ∧ (u = zId ∨ (f u).isSome = true) := by
  unfold gC
  by_cases h1 : k = zId
  · simp [h1]
  · rw [if_neg h1]
    cases h2 : (f k).isSome with
    | true => simp
    | false =>
      rw [if_neg (by decide)]
      cases h3 : Bears f u with
      | true => have := bears_iff.1 h3; simp [h1, this]
      | false =>
        have : ¬ (u = zId ∨ (f u).isSome = true) := fun q => by rw [bears_iff.2 q] at h3; cases h3
        simp [h1, this]
theorem mC_zero {f : Fn} {k u : IdK} (h : mC f k u = 0) : (f k).isSome = true := by
  unfold mC at h
  cases q : (f k).isSome with
  | true => rfl
  | false => rw [q, if_pos rfl] at h; omega
theorem pC_zero {f : Fn} {k : IdK} (h : pC f k = 0) : (f k).isSome = true := by
  unfold pC at h
  cases q : (f k).isSome with
  | true => rfl
  | false => rw [q, if_pos rfl] at h; omega
theorem pres_grow {f : Fn} {P : IdK → Bool} (h : ∀ x, (f x).isSome = P x) {o : OpV} (hk : o.kind = 0) (hc : gC f o.id o.under = 0) (n : NodeV) : ∀ x, (upd f o.id (some n) x).isSome = presS P o x := by
  obtain ⟨h1, h2, h3⟩ := gC_zero.1 hc
  intro x
  unfold presS
  rw [h] at h2
  rw [h] at h3
  rw [if_pos ⟨hk, h1, h2, h3⟩]
  by_cases e : x = o.id
  · subst e; rw [upd_same]; simp
  · rw [upd_ne e, h]; simp [e]
theorem pres_none {f : Fn} {P : IdK → Bool} (h : ∀ x, (f x).isSome = P x) {o : OpV} (hc : gC f o.id o.under ≠ 0) : presS P o = P := by
  unfold presS
  refine if_neg fun q => hc (gC_zero.2 ⟨q.2.1, by rw [h]; exact q.2.2.1, by rw [h]; exact q.2.2.2⟩)
theorem pres_other (P : IdK → Bool) {o : OpV} (hk : o.kind ≠ 0) : presS P o = P := if_neg fun q => hk q.1
theorem pres_put {f : Fn} {k : IdK} (hk : (f k).isSome = true) (n : NodeV) : ∀ x, (upd f k (some n) x).isSome = (f x).isSome := by
  intro x
  by_cases e : x = k
  · subst e; rw [upd_same, hk]; rfl
  · rw [upd_ne e]
theorem infoBk : (Try.prog.info? 53).map (fun i => (i.zero, i.size, i.bytes)) = some (some (.pointer none), 1, 8) := by kernel_rfl
theorem run_bs1 (T e y : TypeId) (z : Value) (ht : Try.prog.underlying T = some (.slice e)) (hi : (Try.prog.info? e).map (fun i => (i.zero, i.size, i.bytes)) = some (some z, 1, y)) (hz : z.cells.size = 1) (v : Value) (hc : v.cells = #[v]) (w : World) : (Instr.buildSlice T 1 #[(0, v)]).run Try.prog w = .ok (.slice (some ⟨w.heap.size, 0, none⟩) 1 1) (w.alloc (.cells #[v] e)) := by
  obtain ⟨ie, hi, hz0, hs, hby⟩ := info_parts hi
  refine run_buildSlice w T e 1 _ #[v] ie _ ht hi hz0 (by rw [hs]; decide) (by rw [hs]; decide) ?_
  rw [hs]
  have := Go.Great.fill_whole (s := 1) (by decide) [v] ((Array.range (1 * 1)).map (z.cells[· % z.cells.size]!)) (by intro u hu; simp at hu; subst hu; rw [hc]; rfl) (by simp)
  simpa [hc] using this
def bkP (r : Rec) : Value := .pointer (some ⟨r.bk, 0, none⟩)
/-- A tree behind some calls, with their Backs. -/
structure GS (B : Nat) (ws w0 : World) (s : Tr) (H : List Rec) (f : Fn) (m : Nat) (W : World) (s' : Tr) (H' : List Rec) (f' : Fn) (bv : Value) : Prop where
  own : Own B W s' (H' ++ H) f'
  t : s'.t = s.t
  row : OwnV W ws.heap.size 53 bv (H'.reverse.map bkP)
  chain : Chain H' f' f
  nd : ((H' ++ H).map (·.bk)).Nodup
  dom : ∃ D, Dom f' D ∧ D.length ≤ m
  bel : Below w0.heap.size w0 W
  sep : ∀ j, bv.ownBlock = some j → j ∉ s'.bl ∧ ∀ r ∈ H' ++ H, j ∉ r.bl
  sz : ws.heap.size ≤ W.heap.size
  bl : ∀ j ∈ s'.bl, j ∈ s.bl ∨ ws.heap.size ≤ j
  tch : Tch (fun j => j ∈ s.bl) ws W
section
variable {B : Nat} {ws w0 : World} {s : Tr} {H : List Rec} {f : Fn} {m : Nat} {W W' : World} {s' : Tr} {H' : List Rec} {f' : Fn} {bv : Value}
theorem GS.lt (h : GS B ws w0 s H f m W s' H' f' bv) {j : Nat} (hj : bv.ownBlock = some j) : j < W.heap.size := by
  obtain ⟨_, c, hc⟩ := h.row.ge j hj
  exact (Array.getElem?_eq_some_iff.1 hc).1
theorem GS.below (h : GS B ws w0 s H f m W s' H' f' bv) (b : Below W.heap.size W W') : GS B ws w0 s H f m W' s' H' f' bv :=
  ⟨h.own.below b, h.t, h.row.below b, h.chain, h.nd, h.dom, h.bel.trans (b.mono h.bel.size), h.sep, Nat.le_trans h.sz b.size, h.bl, h.tch.trans ⟨b.os, b.tape, b.output, b.size, fun j hj _ => b.block j hj⟩⟩
theorem GS.up (h : GS B ws w0 s H f m W s' H' f' bv) {m' : Nat} (hm : m ≤ m') : GS B ws w0 s H f m' W s' H' f' bv :=
  ⟨h.own, h.t, h.row, h.chain, h.nd, by obtain ⟨D, d1, d2⟩ := h.dom; exact ⟨D, d1, by omega⟩, h.bel, h.sep, h.sz, h.bl, h.tch⟩
/-- A step that is done, and its Back. -/
theorem GS.done (h : GS B ws w0 s H f m W s' H' f' bv) (h0 : w0.heap.size ≤ B) (hN0 : w0.heap.size ≤ ws.heap.size) (hB : B ≤ W.heap.size) (hl : H'.length ≤ 1400000000000) {k : IdK} (hk : k.ok) {n : NodeV} {e : Ending} {s2 : Tr} {r : Rec} (hd : Done B W s' (H' ++ H) f' k n e W' s2 r) :
    ∃ (lv qv : Value) (w1 w2 : World), (Instr.buildSlice 26 1 #[(0, .pointer (some ⟨r.bk, 0, none⟩))]).run Try.prog W' = .ok lv w1 ∧ (Builtin.append_ #[26, 26] 26 #[bv, lv]).run Try.prog w1 = .ok qv w2 ∧ GS B ws w0 s H f (m + 1) w2 s2 (r :: H') (upd f' k (some n)) qv := by
  have hN := h.sz
  have z1 := hd.tch.size
  have keep : ∀ j, bv.ownBlock = some j → W'.heap[j]? = W.heap[j]? := fun j hj => hd.tch.block j (h.lt hj) (h.sep j hj).1
  have row1 := h.row.keep keep
  have e1 := run_bs1 26 53 8 _ Try.underlying26 infoBk rfl (.pointer (some ⟨r.bk, 0, none⟩)) rfl W'
  have b1 : Below W'.heap.size W' (W'.alloc (.cells #[.pointer (some ⟨r.bk, 0, none⟩)] 53)) := (Below.refl _ _).alloc (Nat.le_refl _) _
  have v1 : Vals (W'.alloc (.cells #[.pointer (some ⟨r.bk, 0, none⟩)] 53)) (some ⟨W'.heap.size, 0, none⟩) [bkP r] := Or.inr ⟨_, _, rfl, fun j u hj => by
    rw [Nat.zero_add, cell_of_row _ _ _ _ _ _ (heap_alloc_new _ _)]
    simpa [bkP] using hj⟩
  generalize W'.alloc (.cells #[.pointer (some ⟨r.bk, 0, none⟩)] 53) = w1 at *
  have z2 := b1.size
  obtain ⟨qv, w2, e2, own2, g2, o2⟩ := run_appV 26 53 8 _ Try.underlying26 infoBk (Or.inl rfl) rfl w1 ws.heap.size 26 bv _ _ [bkP r] 1 (row1.below b1) v1 (by intro u hu; simp at hu; subst hu; rfl) (by simp; omega) (by omega)
  have t2 : Tch (fun j => bv.ownBlock = some j) W' w2 := Tch.trans ⟨b1.os, b1.tape, b1.output, b1.size, fun j hj _ => b1.block j hj⟩ ⟨g2.os, g2.tape, g2.output, g2.size, fun j hj hO => g2.block j hj (fun q => hO q.symm)⟩
  have sep2 : ∀ j, bv.ownBlock = some j → j ∉ s2.bl ∧ ∀ q ∈ r :: (H' ++ H), j ∉ q.bl := fun j hj => by
    have lj := h.lt hj
    refine ⟨fun q => ?_, fun q hq hb => ?_⟩
    · rcases hd.bl j q with q | q
      · exact (h.sep j hj).1 q
      · omega
    · rcases List.mem_cons.1 hq with rfl | hq
      · have := hd.rb j hb; omega
      · exact (h.sep j hj).2 q hq hb
  have own3 : Own B w2 s2 (r :: (H' ++ H)) (upd f' k (some n)) := hd.own.keep t2 (fun j hj q => (sep2 j q).1 hj) (fun q hq b hb e => (sep2 b e).2 q hq hb)
  refine ⟨_, qv, w1, w2, e1, e2, own3, by rw [hd.t, h.t], by rw [List.reverse_cons, List.map_append]; exact own2, ?_, ?_, ?_, ?_, fun j hj => ?_, by have := t2.size; omega, fun j hj => ?_, ?_⟩
  · have hu : upd (upd f' k (some n)) r.k r.o = f' := by rw [hd.rk, hd.ro, upd_back]
    exact .step (by rw [hu]; exact h.own.ft) (by rw [hu]; exact h.chain)
  · simp only [List.cons_append, List.map_cons, List.nodup_cons]
    refine ⟨fun hm => ?_, h.nd⟩
    obtain ⟨q, hq, eq⟩ := List.mem_map.1 hm
    have l1 := h.own.tree.hist.lt q hq q.bk (by simp [Rec.bl])
    have l2 := hd.rb r.bk (by simp [Rec.bl])
    omega
  · obtain ⟨D, d1, d2⟩ := h.dom
    obtain ⟨D', d3, d4⟩ := d1.put hk n
    exact ⟨D', d3, by omega⟩
  · have b2 : Below w0.heap.size w0 W' := h.bel.trans (hd.tch.below h.bel.size fun j hj => by have := h.own.ge j hj; omega)
    refine b2.trans (t2.below b2.size fun j hj => ?_)
    have := (h.row.ge j hj).1
    omega
  · rcases o2 with q | q
    · rw [q] at hj
      exact ⟨(sep2 j hj).1, fun x hx => (sep2 j hj).2 x hx⟩
    · rw [q] at hj
      simp at hj
      refine ⟨fun q => ?_, fun x hx hb => ?_⟩
      · have := hd.own.tree.tr.lt j q; omega
      · have := hd.own.tree.hist.lt x hx j hb; omega
  · rcases hd.bl j hj with q | q
    · exact h.bl j q
    · exact Or.inr (by omega)
  · refine (h.tch.trans' (O' := fun j => j ∈ s'.bl) hd.tch fun i hi q => ?_).trans' (O' := fun j => bv.ownBlock = some j) t2 fun i hi q => ?_
    · rcases h.bl i q with q | q
      · exact q
      · omega
    · have := (h.row.ge i q).1
      omega
end
end Go.Proofs.Ytoofljkgdjjllab

namespace Go.Proofs.Ytoofljkgdjjllab
open Go.RowKit
set_option linter.unusedVariables false
set_option linter.unusedSimpArgs false

theorem step_no {B : Nat} {w : World} {s : Tr} {H : List Rec} {f : Fn} {k : IdK} {n : NodeV} {c : Int} (hc : c ≠ 0) {F : Nat} {args : Array Value} (hC : Calls Try.prog F args w (StepP B w s H f k n c)) :
    Calls Try.prog F args w fun e w' => e = .returned (.tuple #[.pointer none, .int .i64 c]) ∧ Below w.heap.size w w' := by
  refine hC.mono ?_
  rintro e w' (⟨_, h1, h2⟩ | ⟨h1, _⟩)
  · exact ⟨h1, h2⟩
  · exact absurd h1 hc
theorem step_ok {B : Nat} {w : World} {s : Tr} {H : List Rec} {f : Fn} {k : IdK} {n : NodeV} {c : Int} (hc : c = 0) {F : Nat} {args : Array Value} (hC : Calls Try.prog F args w (StepP B w s H f k n c)) :
    Calls Try.prog F args w fun e w' => ∃ s' r, Done B w s H f k n e w' s' r := by
  refine hC.mono ?_
  rintro e w' (⟨h1, _⟩ | ⟨_, s', r, hd⟩)
  · exact absurd hc h1
  · exact ⟨s', r, hd⟩
set_option maxRecDepth 100000 in
set_option maxHeartbeats 8000000 in
/-- grown. -/
theorem grown_any {B : Nat} {w0 w : World} {s : Tr} {H : List Rec} {f : Fn} (h : Own B w s H f) (h0 : w0.heap.size ≤ B) (hB : B ≤ w.heap.size) (bel0 : Below w0.heap.size w0 w) (hnd : (H.map (·.bk)).Nodup) (D : List IdK) (hD : Dom f D) (a : Option Addr) (c : Nat) (L : List OpV) (hL : RowAt 69 OpV.c w0 a L) (ok : ∀ x ∈ L, x.ok) (hn : L.length ≤ 1256584717422) (P : IdK → Bool) (hP : ∀ x, (f x).isSome = P x) :
    Calls Try.prog 10 #[.pointer (some ⟨s.t, 0, none⟩), .slice a L.length c] w fun e w' => ∃ s' H' f' bv, e = .returned bv ∧ GS B w w0 s H f (D.length + L.length) w' s' H' f' bv ∧ (∀ x, (f' x).isSome = presN P L x) ∧ H'.length ≤ L.length := by
  obtain ⟨n, hnn⟩ : ∃ n, L.length = n := ⟨_, rfl⟩
  have HNn := hidMk hnn
  have HLn := hidMk hn
  have HB := hidMk hB
  have HN0 := hidMk (show w0.heap.size ≤ w.heap.size by omega)
  have HH0 := hidMk h0
  have start : GS B w w0 s H f (D.length + 0) w s [] f (.slice none 0 0) := ⟨h, rfl, ⟨rfl, Or.inl ⟨rfl, rfl⟩⟩, .nil, hnd, ⟨D, hD, Nat.le_refl _⟩, bel0, fun j hj => (by cases hj), Nat.le_refl _, fun j hj => Or.inl hj, Tch.refl _ _⟩
  rw [hnn]
  clear hnn hn hB h hnd bel0 hD h0
  go_enter Try.func10, Try.ntmps10
  go_wp2
  go_loopw [5, 6] (fun v5 v6 wr => ∃ (i : Nat) (s' : Tr) (H' : List Rec) (f' : Fn), v6 = .int .i64 (i : Int) ∧ i ≤ n ∧ GS B w w0 s H f (D.length + i) wr s' H' f' v5 ∧ (∀ x, (f' x).isSome = presN P (L.take i) x) ∧ H'.length ≤ i) (fun v5 v6 wr => n - (match v6 with | .int _ i => i.toNat | _ => 0))
  case atStart => exact ⟨0, s, [], f, rfl, Nat.zero_le _, start, by simpa [presN] using hP, Nat.zero_le _⟩
  case round =>
    clear start hP
    obtain ⟨i, s', H', f', rfl, hin, gs, hp, hl⟩ := hrel
    obtain ⟨av, cv, hv5, _⟩ := gs.row.open
    obtain ⟨l5, hl5⟩ : ∃ l5, (H'.reverse.map bkP).length = l5 := ⟨_, rfl⟩
    rw [hl5] at hv5
    subst hv5
    clear hl5
    have hLn := HNn.out
    have hbig := HLn.out
    by_cases hi : i < n
    · have hxi : L[i]? = some L[i] := List.getElem?_eq_getElem (by omega)
      generalize L[i] = o at hxi
      have hxo : o.ok := ok o (List.mem_of_getElem? hxi)
      obtain ⟨b, off, rfl, lb, hr⟩ : ∃ b o', a = some ⟨b, o', none⟩ ∧ b < w0.heap.size ∧ w0.rangeAt b (o' + i * 69) o.c := by
        rcases hL with rfl | ⟨b, o', e, h1, h2⟩
        · simp at hxi
        · exact ⟨b, o', e, h1, h2 i o hxi⟩
      have HX := hidMk (fun (W : World) (hw : Below w0.heap.size w0 W) => rangeAt_keep hr (hw.block _ lb))
      have HPT := hidMk (pres_take (P := P) hxi)
      have HGS := hidMk gs
      have hbel := gs.bel
      have ck : wr.cell? ⟨b, off + i * 69 + 0, none⟩ = some (.int .i64 o.kind) := HX.out wr hbel 0 _ rfl
      rw [Nat.add_zero] at ck
      have hNB : w.heap.size ≤ wr.heap.size := gs.sz
      have HBw := hidMk (show B ≤ wr.heap.size from Nat.le_trans HB.out hNB)
      have hn2 : n ≤ 1256584717422 := by omega
      clear hxi hr lb hLn
      have hl2 : H'.length ≤ 1400000000000 := by omega
      have HP := hidMk hp
      have HL2 := hidMk hl
      clear hp hl gs
      by_cases k0 : o.kind = 0
      · rw [k0] at ck
        have HKK := hidMk k0
        clear k0
        by_cases hc : gC f' o.id o.under = 0
        · have HCN := hidMk hc
          clear hc
          go_upto_region 8 with fail
          clear ck
          have bd : Below wr.heap.size wr wr.drew := (Below.refl _ _).drew
          have gd := HGS.out.below bd
          refine grown8 (fun W => Below w0.heap.size w0 W) (fun t v W => ∃ s2 r, t = .pointer (some ⟨r.bk, 0, none⟩) ∧ Done B wr.drew s' (H' ++ H) f' o.id ⟨o.under, o.key, false⟩ (.returned (.tuple #[t, v])) W s2 r) b (off + i * 69) (.pointer (some ⟨s.t, 0, none⟩)) (.slice (some ⟨b, off, none⟩) n c) (.int .i64 (i : Int)) o.id.v o.under.v (.string o.key) _ wr _ rfl rfl rfl rfl gd.bel ?_ ?_ ?_ ?_ ?_ ?_
          · have hcall := step_ok HCN.out (grow_all gd.own HBw.out o.id o.under o.key hxo.id hxo.under)
            rw [gd.t] at hcall
            refine hcall.mono ?_
            rintro e w2 ⟨s2, r, hd⟩
            obtain rfl := hd.ret
            refine ⟨_, _, rfl, gd.bel.trans (hd.tch.below gd.bel.size fun j hj => by have := gd.own.ge j hj; have := HH0.out; omega), s2, r, rfl, hd⟩
          · exact fun W => ix_op hi (by omega) W
          · exact fun W hw => op_id hxo (HX.out W hw)
          · exact fun W hw => op_under hxo (HX.out W hw)
          · exact fun W hw => op_key hxo (HX.out W hw)
          rintro t v a' w2 ⟨s2, r, rfl, hd⟩ ha
          subst ha
          simp only [Act.put, List.setIfInBounds_toArray, List.set_cons_zero, List.set_cons_succ]
          obtain ⟨lv, qv, w3, w4, e1, e2, g2⟩ := gd.done HH0.out HN0.out HBw.out hl2 hxo.id hd
          have E1 := hidMk e1
          have E2 := hidMk e2
          have G2 := hidMk g2
          clear e1 e2 g2 hd gd
          go_wp2_with (first
            | (refine wpList_run rfl (exec_buildSlice (t := 26) (n := 1) (xv := .pointer (some ⟨r.bk, 0, none⟩)) (v := lv) rfl rfl E1.out) ?_)
            | (refine wpList_run rfl (exec_append (ts := #[26, 26]) (xv := .slice av l5 cv) (yv := lv) (v := qv) rfl rfl rfl E2.out) ?_)
            | fail)
          rw [show ((i : Int) + 1) = ((i + 1 : Nat) : Int) by omega]
          refine ⟨⟨i + 1, s2, r :: H', _, rfl, hi, G2.out, ?_, by have := HL2.out; simp; omega⟩, ?_⟩
          · rw [HPT.out]; exact pres_grow HP.out HKK.out HCN.out _
          · show n - ((i + 1 : Nat) : Int).toNat < n - (i : Int).toNat
            omega
        · have HCN := hidMk (show gC f' o.id o.under ≠ 0 from hc)
          clear hc
          go_upto_region 8 with fail
          clear ck
          have bd : Below wr.heap.size wr wr.drew := (Below.refl _ _).drew
          have gd := HGS.out.below bd
          refine grown8 (fun W => Below w0.heap.size w0 W) (fun t v W => t = .pointer none ∧ Below wr.heap.size wr W) b (off + i * 69) (.pointer (some ⟨s.t, 0, none⟩)) (.slice (some ⟨b, off, none⟩) n c) (.int .i64 (i : Int)) o.id.v o.under.v (.string o.key) _ wr _ rfl rfl rfl rfl gd.bel ?_ ?_ ?_ ?_ ?_ ?_
          · have hcall := step_no HCN.out (grow_all gd.own HBw.out o.id o.under o.key hxo.id hxo.under)
            rw [gd.t] at hcall
            refine hcall.mono ?_
            rintro e w2 ⟨rfl, b2⟩
            exact ⟨_, _, rfl, gd.bel.trans (b2.mono gd.bel.size), rfl, bd.trans (b2.mono bd.size)⟩
          · exact fun W => ix_op hi (by omega) W
          · exact fun W hw => op_id hxo (HX.out W hw)
          · exact fun W hw => op_under hxo (HX.out W hw)
          · exact fun W hw => op_key hxo (HX.out W hw)
          rintro t v a' w2 ⟨rfl, b2⟩ ha
          subst ha
          simp only [Act.put, List.setIfInBounds_toArray, List.set_cons_zero, List.set_cons_succ]
          have BA := hidMk b2
          clear b2 gd bd
          go_wp2
          rw [show ((i : Int) + 1) = ((i + 1 : Nat) : Int) by omega]
          refine ⟨⟨i + 1, s', H', f', rfl, hi, (HGS.out.below BA.out).up (by omega), ?_, by have := HL2.out; omega⟩, ?_⟩
          · rw [HPT.out, pres_none HP.out HCN.out]; exact HP.out
          · show n - ((i + 1 : Nat) : Int).toNat < n - (i : Int).toNat
            omega
      · by_cases k1 : o.kind = 1
        · rw [k1] at ck
          have HKK := hidMk k1
          clear k0 k1
          by_cases hc : mC f' o.id o.under = 0
          · have HCN := hidMk hc
            clear hc
            go_upto_region 10 with fail
            clear ck
            have bd : Below wr.heap.size wr wr.drew := (Below.refl _ _).drew
            have gd := HGS.out.below bd
            refine grown10 (fun W => Below w0.heap.size w0 W) (fun t v W => ∃ s2 r, t = .pointer (some ⟨r.bk, 0, none⟩) ∧ Done B wr.drew s' (H' ++ H) f' o.id ⟨o.under, o.key, false⟩ (.returned (.tuple #[t, v])) W s2 r) b (off + i * 69) (.pointer (some ⟨s.t, 0, none⟩)) (.slice (some ⟨b, off, none⟩) n c) (.int .i64 (i : Int)) o.id.v o.under.v (.string o.key) _ wr _ rfl rfl rfl rfl gd.bel ?_ ?_ ?_ ?_ ?_ ?_
            · have hcall := step_ok HCN.out (move_all gd.own HBw.out o.id o.under o.key hxo.id hxo.under)
              rw [gd.t] at hcall
              refine hcall.mono ?_
              rintro e w2 ⟨s2, r, hd⟩
              obtain rfl := hd.ret
              refine ⟨_, _, rfl, gd.bel.trans (hd.tch.below gd.bel.size fun j hj => by have := gd.own.ge j hj; have := HH0.out; omega), s2, r, rfl, hd⟩
            · exact fun W => ix_op hi (by omega) W
            · exact fun W hw => op_id hxo (HX.out W hw)
            · exact fun W hw => op_under hxo (HX.out W hw)
            · exact fun W hw => op_key hxo (HX.out W hw)
            rintro t v a' w2 ⟨s2, r, rfl, hd⟩ ha
            subst ha
            simp only [Act.put, List.setIfInBounds_toArray, List.set_cons_zero, List.set_cons_succ]
            obtain ⟨lv, qv, w3, w4, e1, e2, g2⟩ := gd.done HH0.out HN0.out HBw.out hl2 hxo.id hd
            have E1 := hidMk e1
            have E2 := hidMk e2
            have G2 := hidMk g2
            clear e1 e2 g2 hd gd
            go_wp2_with (first
              | (refine wpList_run rfl (exec_buildSlice (t := 26) (n := 1) (xv := .pointer (some ⟨r.bk, 0, none⟩)) (v := lv) rfl rfl E1.out) ?_)
              | (refine wpList_run rfl (exec_append (ts := #[26, 26]) (xv := .slice av l5 cv) (yv := lv) (v := qv) rfl rfl rfl E2.out) ?_)
              | fail)
            rw [show ((i : Int) + 1) = ((i + 1 : Nat) : Int) by omega]
            refine ⟨⟨i + 1, s2, r :: H', _, rfl, hi, G2.out, ?_, by have := HL2.out; simp; omega⟩, ?_⟩
            · rw [HPT.out, pres_other _ (by rw [HKK.out]; decide)]; intro x; rw [pres_put (mC_zero HCN.out) _ x]; exact HP.out x
            · show n - ((i + 1 : Nat) : Int).toNat < n - (i : Int).toNat
              omega
          · have HCN := hidMk (show mC f' o.id o.under ≠ 0 from hc)
            clear hc
            go_upto_region 10 with fail
            clear ck
            have bd : Below wr.heap.size wr wr.drew := (Below.refl _ _).drew
            have gd := HGS.out.below bd
            refine grown10 (fun W => Below w0.heap.size w0 W) (fun t v W => t = .pointer none ∧ Below wr.heap.size wr W) b (off + i * 69) (.pointer (some ⟨s.t, 0, none⟩)) (.slice (some ⟨b, off, none⟩) n c) (.int .i64 (i : Int)) o.id.v o.under.v (.string o.key) _ wr _ rfl rfl rfl rfl gd.bel ?_ ?_ ?_ ?_ ?_ ?_
            · have hcall := step_no HCN.out (move_all gd.own HBw.out o.id o.under o.key hxo.id hxo.under)
              rw [gd.t] at hcall
              refine hcall.mono ?_
              rintro e w2 ⟨rfl, b2⟩
              exact ⟨_, _, rfl, gd.bel.trans (b2.mono gd.bel.size), rfl, bd.trans (b2.mono bd.size)⟩
            · exact fun W => ix_op hi (by omega) W
            · exact fun W hw => op_id hxo (HX.out W hw)
            · exact fun W hw => op_under hxo (HX.out W hw)
            · exact fun W hw => op_key hxo (HX.out W hw)
            rintro t v a' w2 ⟨rfl, b2⟩ ha
            subst ha
            simp only [Act.put, List.setIfInBounds_toArray, List.set_cons_zero, List.set_cons_succ]
            have BA := hidMk b2
            clear b2 gd bd
            go_wp2
            rw [show ((i : Int) + 1) = ((i + 1 : Nat) : Int) by omega]
            refine ⟨⟨i + 1, s', H', f', rfl, hi, (HGS.out.below BA.out).up (by omega), ?_, by have := HL2.out; omega⟩, ?_⟩
            · rw [HPT.out, pres_other _ (by rw [HKK.out]; decide)]; exact HP.out
            · show n - ((i + 1 : Nat) : Int).toNat < n - (i : Int).toNat
              omega
        · by_cases k2 : o.kind = 2
          · rw [k2] at ck
            have HKK := hidMk k2
            clear k0 k1 k2
            by_cases hc : pC f' o.id = 0
            · have HCN := hidMk hc
              clear hc
              go_upto_region 12 with fail
              clear ck
              have gd := HGS.out
              have HC := hidMk (step_ok HCN.out (prune_all gd.own HBw.out o.id hxo.id))
              rw [gd.t] at HC
              have HLO := hidMk (op_id hxo (HX.out wr gd.bel))
              go_upto_region 13 with (first
                | (refine wpList_val rfl (exec_load (t := 35) (u := .pointer (some ⟨b, off + i * 69 + 1, none⟩)) rfl rfl HLO.out) ?_)
                | (go_at_call 26; refine HC.out.mono ?_; rintro e w2 ⟨s2, r, hd⟩; obtain rfl := hd.ret)
                | fail)
              obtain ⟨lv, qv, w3, w4, e1, e2, g2⟩ := gd.done HH0.out HN0.out HBw.out hl2 hxo.id hd
              have E1 := hidMk e1
              have E2 := hidMk e2
              have G2 := hidMk g2
              clear e1 e2 g2 hd gd
              go_wp2_with (first
                | (refine wpList_run rfl (exec_buildSlice (t := 26) (n := 1) (xv := .pointer (some ⟨r.bk, 0, none⟩)) (v := lv) rfl rfl E1.out) ?_)
                | (refine wpList_run rfl (exec_append (ts := #[26, 26]) (xv := .slice av l5 cv) (yv := lv) (v := qv) rfl rfl rfl E2.out) ?_)
                | fail)
              rw [show ((i : Int) + 1) = ((i + 1 : Nat) : Int) by omega]
              refine ⟨⟨i + 1, s2, r :: H', _, rfl, hi, G2.out, ?_, by have := HL2.out; simp; omega⟩, ?_⟩
              · rw [HPT.out, pres_other _ (by rw [HKK.out]; decide)]; intro x; rw [pres_put (pC_zero HCN.out) _ x]; exact HP.out x
              · show n - ((i + 1 : Nat) : Int).toNat < n - (i : Int).toNat
                omega
            · have HCN := hidMk (show pC f' o.id ≠ 0 from hc)
              clear hc
              go_upto_region 12 with fail
              clear ck
              have gd := HGS.out
              have HC := hidMk (step_no HCN.out (prune_all gd.own HBw.out o.id hxo.id))
              rw [gd.t] at HC
              have HLO := hidMk (op_id hxo (HX.out wr gd.bel))
              clear gd
              go_wp2_with (first
                | (refine wpList_val rfl (exec_load (t := 35) (u := .pointer (some ⟨b, off + i * 69 + 1, none⟩)) rfl rfl HLO.out) ?_)
                | (go_at_call 26; refine HC.out.mono ?_; rintro e w2 ⟨rfl, b2⟩; have BA := hidMk b2; clear b2)
                | fail)
              rw [show ((i : Int) + 1) = ((i + 1 : Nat) : Int) by omega]
              refine ⟨⟨i + 1, s', H', f', rfl, hi, (HGS.out.below BA.out).up (by omega), ?_, by have := HL2.out; omega⟩, ?_⟩
              · rw [HPT.out, pres_other _ (by rw [HKK.out]; decide)]; exact HP.out
              · show n - ((i + 1 : Nat) : Int).toNat < n - (i : Int).toNat
                omega
          · generalize hkz : o.kind = kz at *
            have HKZ := hidMk hkz
            have HK0 := hidMk k0
            clear hkz
            go_wp2
            clear ck k0 k1 k2
            rw [show ((i : Int) + 1) = ((i + 1 : Nat) : Int) by omega]
            refine ⟨⟨i + 1, s', H', f', rfl, hi, HGS.out.up (by omega), ?_, by have := HL2.out; omega⟩, ?_⟩
            · rw [HPT.out, pres_other _ (by rw [HKZ.out]; exact HK0.out)]; exact HP.out
            · show n - ((i + 1 : Nat) : Int).toNat < n - (i : Int).toNat
              omega
    · obtain rfl : i = n := by omega
      have HGS := hidMk gs
      have HP := hidMk hp
      clear hin hi hp gs
      go_wp2
      go_ret
      refine ⟨s', H', f', _, rfl, HGS.out, ?_, hl⟩
      have := HP.out
      rwa [List.take_of_length_le (by rw [hLn]; exact Nat.le_refl _)] at this
end Go.Proofs.Ytoofljkgdjjllab

namespace Go.Proofs.Ytoofljkgdjjllab
open Go.RowKit
set_option linter.unusedVariables false
set_option linter.unusedSimpArgs false

theorem put_len_le (NL : List RN) (k : IdK) (n : NodeV) : (M.put NL k n).length ≤ NL.length + 1 := by
  rw [M.put_len]; split <;> omega
section
variable (d : Nat) (NL : List (IdK × NodeV)) (pv : Value)
theorem ref_dom {w : World} (h : RefAt w d NL pv) : Dom (lookN NL) (NL.map (·.1)) := by
  refine ⟨fun x => ⟨fun hx => ?_, fun hx => ?_⟩, h.nd, fun x hx => ?_⟩
  · obtain ⟨p, hp, rfl⟩ := List.mem_map.1 hx
    unfold lookN
    rw [M.look_of_mem h.nd hp]; rfl
  · obtain ⟨v, hv⟩ := Option.isSome_iff_exists.1 hx
    exact List.mem_map.2 ⟨_, M.look_mem hv, rfl⟩
  · obtain ⟨p, hp, rfl⟩ := List.mem_map.1 hx
    exact (h.ok p hp).k
end
set_option maxRecDepth 100000 in
set_option maxHeartbeats 4000000 in
/-- count. -/
theorem count_any (a : Option Addr) (c : Nat) (L : List OpV) (w : World) (hL : RowAt 69 OpV.c w a L) (ok : ∀ x ∈ L, x.ok) (hn : L.length ≤ 1256584717422) :
    Calls Try.prog 11 #[.slice a L.length c] w fun e w' => ∃ m : Nat, e = .returned (.int .i64 (m : Int)) ∧ (∃ f2 D2, Dom f2 D2 ∧ D2.length = m ∧ ∀ x, (f2 x).isSome = presN (fun _ => false) L x) ∧ Below w.heap.size w w' := by
  obtain ⟨n, hnn⟩ : ∃ n, L.length = n := ⟨_, rfl⟩
  have HNn := hidMk hnn
  have HLn := hidMk hn
  rw [hnn]
  clear hnn hn
  have HR := hidMk rnew_own
  go_enter Try.func11, Try.ntmps11
  go_wp2_with (first
    | (go_at_call 31; refine (HR.out _).mono ?_; rintro e w1 ⟨d, rfl, hd, b1⟩; clear HR)
    | fail)
  go_loopw [4] (fun v4 wr => ∃ i : Nat, v4 = .int .i64 (i : Int) ∧ i ≤ n ∧ (∃ NL PL vn vp us, RefP w.heap.size wr d NL PL vn vp us ∧ (∀ x, (lookN NL x).isSome = presN (fun _ => false) (L.take i) x) ∧ NL.length ≤ i ∧ PL.length ≤ i) ∧ Below w.heap.size w wr) (fun v4 wr => n - (match v4 with | .int _ i => i.toNat | _ => 0))
  case atStart => exact ⟨0, rfl, Nat.zero_le _, ⟨_, _, _, _, _, hd, fun x => rfl, Nat.le_refl _, Nat.le_refl _⟩, b1⟩
  case round =>
    clear hd b1
    obtain ⟨i, rfl, hin, ⟨NL, PL, vn, vp, us, rp, hp, l1, l2⟩, bel⟩ := hrel
    have hLn := HNn.out
    have hbig := HLn.out
    by_cases hi : i < n
    · have hxi : L[i]? = some L[i] := List.getElem?_eq_getElem (by omega)
      generalize L[i] = o at hxi
      have hxo : o.ok := ok o (List.mem_of_getElem? hxi)
      obtain ⟨b, off, rfl, lb, hr⟩ : ∃ b o', a = some ⟨b, o', none⟩ ∧ b < w.heap.size ∧ w.rangeAt b (o' + i * 69) o.c := by
        rcases hL with rfl | ⟨b, o', e, h1, h2⟩
        · simp at hxi
        · exact ⟨b, o', e, h1, h2 i o hxi⟩
      have HX := hidMk (fun (W : World) (hw : Below w.heap.size w W) => rangeAt_keep hr (hw.block _ lb))
      have HPT := hidMk (pres_take (P := fun _ => false) hxi)
      have ck : wr.cell? ⟨b, off + i * 69 + 0, none⟩ = some (.int .i64 o.kind) := HX.out wr bel 0 _ rfl
      rw [Nat.add_zero] at ck
      have HP := hidMk hp
      have HRP := hidMk rp
      have HB1 := hidMk l1
      have HB2 := hidMk l2
      have hn2 : n ≤ 1256584717422 := by omega
      clear hxi hr lb hLn hp rp l1 l2
      by_cases k0 : o.kind = 0
      · rw [k0] at ck
        have HK0 := hidMk k0
        clear k0
        go_upto_region 6 with fail
        clear ck
        have bd : Below wr.heap.size wr wr.drew := (Below.refl _ _).drew
        have beld := bel.trans (bd.mono bel.size)
        have rd := HRP.out.below bd
        have hall := rgrow_all rd beld.size (by have := HB1.out; omega) (by have := HB2.out; omega) o.id hxo.id o.under o.key hxo.under
        have fwd : ∀ e w', RStep w.heap.size wr.drew d NL PL vn vp us o.id ⟨o.under, o.key, false⟩ (gC (lookN NL) o.id o.under) e w' → ∃ v, e = .returned v ∧ Below w.heap.size w w' ∧ ((∃ NL PL vn vp us, RefP w.heap.size w' d NL PL vn vp us ∧ (∀ x, (lookN NL x).isSome = presN (fun _ => false) (L.take (i + 1)) x) ∧ NL.length ≤ i + 1 ∧ PL.length ≤ i + 1) ∧ Below w.heap.size w w') := by
          rintro e w' (⟨hc, rfl, b2⟩ | ⟨hc, rfl, vn', vp', us', r2, t2, _⟩)
          · have bb := beld.trans (b2.mono beld.size)
            refine ⟨_, rfl, bb, ⟨NL, PL, vn, vp, us, rd.below b2, ?_, Nat.le_succ_of_le HB1.out, Nat.le_succ_of_le HB2.out⟩, bb⟩
            rw [HPT.out, pres_none HP.out hc]; exact HP.out
          · have bb := beld.trans (t2.below beld.size fun j hj => (rd.ge j hj).1)
            refine ⟨_, rfl, bb, ⟨_, _, vn', vp', us', r2, ?_, ?_, by have := HB2.out; simp; omega⟩, bb⟩
            · intro x
              rw [HPT.out, look_put rd.nd]
              exact pres_grow HP.out HK0.out hc _ x
            · have := put_len_le NL o.id ⟨o.under, o.key, false⟩
              have := HB1.out
              omega
        refine count6 (fun W => Below w.heap.size w W) (fun W => (∃ NL PL vn vp us, RefP w.heap.size W d NL PL vn vp us ∧ (∀ x, (lookN NL x).isSome = presN (fun _ => false) (L.take (i + 1)) x) ∧ NL.length ≤ i + 1 ∧ PL.length ≤ i + 1) ∧ Below w.heap.size w W) b (off + i * 69) (.pointer (some ⟨d, 0, none⟩)) (.slice (some ⟨b, off, none⟩) n c) (.int .i64 (i : Int)) o.id.v o.under.v (.string o.key) _ wr _ rfl rfl rfl rfl beld ?_ ?_ ?_ ?_ ?_ ?_
        · exact hall.mono fwd
        · exact fun W => ix_op hi (by omega) W
        · exact fun W hw => op_id hxo (HX.out W hw)
        · exact fun W hw => op_under hxo (HX.out W hw)
        · exact fun W hw => op_key hxo (HX.out W hw)
        rintro v a' w2 hq ha
        subst ha
        simp only [Act.put, List.setIfInBounds_toArray, List.set_cons_zero, List.set_cons_succ]
        have HQ := hidMk hq
        clear hq fwd hall rd beld bd
        go_wp2
        rw [show ((i : Int) + 1) = ((i + 1 : Nat) : Int) by omega]
        refine ⟨⟨i + 1, rfl, hi, HQ.out.1, HQ.out.2⟩, ?_⟩
        show n - ((i + 1 : Nat) : Int).toNat < n - (i : Int).toNat
        omega
      · generalize hkz : o.kind = kz at *
        have HKZ := hidMk hkz
        have HK0 := hidMk k0
        clear hkz
        go_wp2
        clear ck k0
        rw [show ((i : Int) + 1) = ((i + 1 : Nat) : Int) by omega]
        refine ⟨⟨i + 1, rfl, hi, ⟨NL, PL, vn, vp, us, HRP.out, ?_, Nat.le_succ_of_le HB1.out, Nat.le_succ_of_le HB2.out⟩, bel⟩, ?_⟩
        · rw [HPT.out, pres_other _ (by rw [HKZ.out]; exact HK0.out)]; exact HP.out
        · show n - ((i + 1 : Nat) : Int).toNat < n - (i : Int).toNat
          omega
    · obtain rfl : i = n := by omega
      have HP := hidMk hp
      have HRP := hidMk rp
      have HRL := hidMk (rlen_any d NL vp wr rp.ref)
      clear hin hi hp rp
      go_wp2_with (first
        | (go_at_call 33; refine HRL.out.mono ?_; rintro e w2 ⟨rfl, b2⟩)
        | fail)
      go_ret
      refine ⟨_, rfl, ⟨lookN NL, NL.map (·.1), ref_dom d NL vp HRP.out.ref, by rw [List.length_map], ?_⟩, bel.trans (b2.mono bel.size)⟩
      have := HP.out
      rwa [List.take_of_length_le (by rw [hLn]; exact Nat.le_refl _)] at this
end Go.Proofs.Ytoofljkgdjjllab

namespace Go.Proofs.Ytoofljkgdjjllab
open Go.RowKit
set_option linter.unusedVariables false
set_option linter.unusedSimpArgs false

theorem Flat.before {f : Fn} {a out : List IdK} (h : Flat f a out) : ∀ p x q, out = p ++ x :: q → x ∈ a ∨ ∃ u ∈ p, Und f u x := by
  induction h with
  | nil => intro p x q e; simp at e
  | @cons x0 K rest out hk h ih =>
    intro p x q e
    cases p with
    | nil =>
      simp only [List.nil_append, List.cons.injEq] at e
      exact Or.inl (by simp [e.1])
    | cons y p =>
      simp only [List.cons_append, List.cons.injEq] at e
      obtain ⟨e1, e⟩ := e
      rcases ih p x q e with hm | ⟨u, hu, hU⟩
      · rcases List.mem_append.1 hm with hm | hm
        · exact Or.inr ⟨x0, by simp [e1], (hk.mem x).1 hm⟩
        · exact Or.inl (List.mem_cons_of_mem _ hm)
      · exact Or.inr ⟨u, by simp [hu], hU⟩
/-- Who stands in Walk stands behind what it is under. -/
theorem IsWalk.before {f : Fn} {W : List IdK} (h : IsWalk f W) {i : Nat} {x : IdK} (hx : W[i]? = some x) : (nd f x).u = zId ∨ (nd f x).u ∈ W.take i := by
  obtain ⟨K, hK, hF⟩ := h
  obtain ⟨hi, e⟩ := List.getElem?_eq_some_iff.1 hx
  have hs : W = W.take i ++ x :: W.drop (i + 1) := by
    rw [← e, ← List.drop_eq_getElem_cons hi, List.take_append_drop]
  rcases hF.before _ _ _ hs with hm | ⟨u, hu, hU⟩
  · exact Or.inl ((hK.mem x).1 hm).nd.2.1
  · exact Or.inr (by rw [hU.nd.2.1]; exact hu)
theorem IsWalk.climb {f : Fn} (hf : Forest f) {W : List IdK} (h : IsWalk f W) {x : IdK} (hx : x ∈ W) : ∃ l, Climb f x l false := by
  obtain ⟨K, hK, hF⟩ := h
  obtain ⟨y, hy, ha⟩ := hF.from hf (fun z hz => ((hK.mem z).1 hz).ne hf) x hx
  obtain ⟨q1, q2, q3⟩ := ((hK.mem y).1 hy).nd
  have hc : Climb f y [] false := by have := Climb.top (f := f) (k := y) (Or.inr q2); rwa [q1] at this
  rcases ha with rfl | ⟨l, p, hl, hm⟩
  · exact ⟨_, hc⟩
  · obtain ⟨a, b, rfl, hb⟩ := hl.suffix y hm
    obtain ⟨_, rfl⟩ := hb.same hc
    exact ⟨_, hl⟩
theorem IsWalk.of_climb {f : Fn} (hf : Forest f) {W : List IdK} (h : IsWalk f W) {x : IdK} {l : List IdK} {p : Bool} (hc : Climb f x l p) (hp : p = false) (hx : (f x).isSome = true) : x ∈ W := by
  obtain ⟨K, hK, hF⟩ := h
  induction hc with
  | @top k ht =>
    obtain ⟨n, hn⟩ := Option.isSome_iff_exists.1 hx
    have e : nd f k = n := by unfold nd; rw [hn]; rfl
    rw [e] at ht hp
    rcases ht with ht | ht
    · rw [ht] at hp; cases hp
    · exact hF.sub.subset ((hK.mem k).2 ⟨n, hn, hp, ht⟩)
  | @up k l p h1 h2 h3 ih =>
    have hu := (Climb.up h1 h2 h3).und
    have := (Climb.up h1 h2 h3).there hf (nd f k).u (by simp)
    exact hF.closed _ (ih hp this) _ hu
theorem IsWalk.live {f : Fn} (hf : Forest f) {W : List IdK} (h : IsWalk f W) {x : IdK} {b : Bool} (hb : LiveIs f x b) : decide (x ∈ W) = b := by
  rcases hb with ⟨h1, rfl⟩ | ⟨h1, l, p, hc, rfl⟩
  · refine decide_eq_false fun hm => ?_
    have := h.there x hm
    rw [h1] at this
    cases this
  · cases p with
    | false => exact decide_eq_true (h.of_climb hf hc rfl h1)
    | true =>
      refine decide_eq_false fun hm => ?_
      obtain ⟨l2, h2⟩ := h.climb hf hm
      have := (hc.same h2).2
      cases this
theorem IsWalk.has {f : Fn} (hf : Forest f) {W : List IdK} (h : IsWalk f W) {x : IdK} (hx : x ∈ W) : ((f x).isSome && !(nd f x).pr) = true := by
  have h1 := h.there x hx
  obtain ⟨l, hc⟩ := h.climb hf hx
  rw [h1]
  cases hp : (nd f x).pr with
  | false => rfl
  | true =>
    have := (hc.same (Climb.top (Or.inl hp))).2
    rw [hp] at this
    cases this
/-- On the way up. -/
theorem Climb.at {f : Fn} {p : Bool} : ∀ (i : Nat) {k x : IdK} {l : List IdK}, Climb f k l p → (k :: l)[i]? = some x → Climb f x (l.drop i) p
  | 0, k, x, l, hc, hx => by simp at hx; subst hx; exact hc
  | i + 1, k, x, l, hc, hx => by
    cases hc with
    | top _ => simp at hx
    | up h1 h2 h3 =>
      rw [List.getElem?_cons_succ] at hx
      exact Climb.at i h3 hx
theorem Climb.stop {f : Fn} {x : IdK} {p : Bool} (h : Climb f x [] p) : ((nd f x).pr = true ∨ (nd f x).u = zId) ∧ p = (nd f x).pr := by
  cases h with
  | top h => exact ⟨h, rfl⟩
theorem Climb.next {f : Fn} {x u : IdK} {l : List IdK} {p : Bool} (h : Climb f x (u :: l) p) : (nd f x).pr = false ∧ (nd f x).u ≠ zId ∧ (nd f x).u = u ∧ (f x).isSome = true := by
  have hu := h.und.nd
  cases h with
  | up h1 h2 h3 => exact ⟨h1, h2, rfl, hu.2.2⟩
/-- What stands at a node: those under it, and itself, if it is pruned. -/
def Sec (f : Fn) (x y : IdK) : Prop := (y = x ∧ (f x).isSome = true ∧ (nd f x).pr = true) ∨ Und f x y
theorem Sec.one {f : Fn} {x x' y : IdK} (h : Sec f x y) (h' : Sec f x' y) : x = x' := by
  rcases h with ⟨rfl, h1, h2⟩ | h <;> rcases h' with ⟨rfl, h1', h2'⟩ | h'
  · rfl
  · have := h'.nd.1; rw [h2] at this; cases this
  · have := h.nd.1; rw [h2'] at this; cases this
  · rw [← h.nd.2.1, h'.nd.2.1]
theorem Sec.there {f : Fn} {x y : IdK} (h : Sec f x y) : (f y).isSome = true := by
  rcases h with ⟨rfl, h1, h2⟩ | h
  · exact h1
  · exact h.nd.2.2
def selfL (f : Fn) (x : IdK) : List IdK := if (f x).isSome = true ∧ (nd f x).pr = true then [x] else []
theorem sec_mem {f : Fn} {x y : IdK} {K : List IdK} (h : IsKids f x K) : y ∈ selfL f x ++ K ↔ Sec f x y := by
  rw [List.mem_append, h.mem]
  unfold selfL Sec
  split
  · next q => simp [q.1, q.2]
  · next q =>
    constructor
    · rintro (h | h)
      · cases h
      · exact Or.inr h
    · rintro (⟨_, h1, h2⟩ | h)
      · exact absurd ⟨h1, h2⟩ q
      · exact Or.inr h
/-- All that stands at some. -/
structure Part (f : Fn) (I A : List IdK) : Prop where
  nd : A.Nodup
  mem : ∀ y, y ∈ A ↔ ∃ x ∈ I, Sec f x y
theorem Part.nil (f : Fn) : Part f [] [] := ⟨List.nodup_nil, by simp⟩
theorem Part.more {f : Fn} {I A : List IdK} (h : Part f I A) {x : IdK} (hx : x ∈ I) : Part f (I ++ [x]) A := by
  refine ⟨h.nd, fun y => (h.mem y).trans ⟨fun ⟨z, hz, hs⟩ => ⟨z, by simp [hz], hs⟩, fun ⟨z, hz, hs⟩ => ?_⟩⟩
  rcases List.mem_append.1 hz with hz | hz
  · exact ⟨z, hz, hs⟩
  · simp at hz; subst hz; exact ⟨z, hx, hs⟩
theorem Part.step {f : Fn} {I A : List IdK} (h : Part f I A) {x : IdK} (hx : x ∉ I) {K : List IdK} (hK : IsKids f x K) : Part f (I ++ [x]) (A ++ (selfL f x ++ K)) := by
  refine ⟨List.nodup_append.2 ⟨h.nd, ?_, ?_⟩, fun y => ?_⟩
  · refine List.nodup_append.2 ⟨?_, hK.nodup, ?_⟩
    · unfold selfL; split <;> simp
    · intro a ha b hb e
      subst e
      unfold selfL at ha
      split at ha
      · next q =>
        simp at ha
        subst ha
        have := ((hK.mem a).1 hb).nd.1
        rw [q.2] at this
        cases this
      · cases ha
  · intro a ha b hb e
    subst e
    obtain ⟨z, hz, hs⟩ := (h.mem a).1 ha
    have := hs.one ((sec_mem hK).1 hb)
    subst this
    exact hx hz
  · rw [List.mem_append, h.mem, sec_mem hK]
    constructor
    · rintro (⟨z, hz, hs⟩ | hs)
      · exact ⟨z, by simp [hz], hs⟩
      · exact ⟨x, by simp, hs⟩
    · rintro ⟨z, hz, hs⟩
      rcases List.mem_append.1 hz with hz | hz
      · exact Or.inl ⟨z, hz, hs⟩
      · simp at hz; subst hz; exact Or.inr hs
theorem Part.le {f : Fn} {I A D : List IdK} (h : Part f I A) (hD : Dom f D) : A.length ≤ D.length :=
  nodup_le h.nd fun y hy => by obtain ⟨x, _, hs⟩ := (h.mem y).1 hy; exact (hD.mem y).2 hs.there
theorem Part.ok {f : Fn} {I A D : List IdK} (h : Part f I A) (hD : Dom f D) : ∀ y ∈ A, y.ok := fun y hy => by
  obtain ⟨x, _, hs⟩ := (h.mem y).1 hy
  exact hD.ok y ((hD.mem y).2 hs.there)
theorem Part.len {f : Fn} {I A D : List IdK} (h : Part f I A) (hD : Dom f D) (hf : Forest f) (hz : zId ∈ I) (hI : ∀ x, (f x).isSome = true → x ∈ I) : A.length = D.length := by
  refine Nat.le_antisymm (h.le hD) (nodup_le hD.nd fun y hy => ?_)
  have hy' := (hD.mem y).1 hy
  obtain ⟨n, hn⟩ := Option.isSome_iff_exists.1 hy'
  have e : Go.Proofs.Ytoofljkgdjjllab.nd f y = n := by unfold Go.Proofs.Ytoofljkgdjjllab.nd; rw [hn]; rfl
  rw [h.mem]
  cases hp : n.pr with
  | true => exact ⟨y, hI y hy', Or.inl ⟨rfl, hy', by rw [e]; exact hp⟩⟩
  | false =>
    by_cases hu : n.u = zId
    · exact ⟨zId, hz, Or.inr ⟨n, hn, hp, hu⟩⟩
    · exact ⟨n.u, hI _ (hf.under y n hn hp hu), Or.inr ⟨n, hn, hp, rfl⟩⟩
theorem pres_mem {x : IdK} : ∀ (L : List OpV) (P : IdK → Bool), presN P L x = true → P x = true ∨ ∃ o ∈ L, o.id = x
  | [], P, h => Or.inl h
  | o :: L, P, h => by
    rcases pres_mem L (presS P o) h with h | ⟨q, hq, e⟩
    · unfold presS at h
      split at h
      · by_cases hx : x = o.id
        · exact Or.inr ⟨o, by simp, hx.symm⟩
        · simp [hx] at h; exact Or.inl h
      · exact Or.inl h
    · exact Or.inr ⟨q, by simp [hq], e⟩
theorem pres_named {L : List OpV} {x : IdK} (h : presN (fun _ => false) L x = true) : x ∈ namedL L := by
  rcases pres_mem L _ h with h | ⟨o, ho, rfl⟩
  · cases h
  · exact List.mem_cons_of_mem _ (List.mem_flatMap.2 ⟨o, ho, by simp⟩)
end Go.Proofs.Ytoofljkgdjjllab

namespace Go.Proofs.Ytoofljkgdjjllab
open Go.RowKit
set_option linter.unusedVariables false

/- Steps of a list of operations: what kind of operation it is comes first, so that one that does not fit fails at once. -/
section
variable {P : Program} {ops : Array Oper} {rest : List Oper} {o : Oper} {a : Act} {w w2 : World} {Q : Exit → Act → World → Prop}
theorem wload (w0 : World) {t : TypeId} {x : Operand} {u v : Value} (ho : o.op = .load t x) (hw : w = w0) (hp : a.eval x = u) (hl : (Instr.loadAt t u).run P w0 = .ok v w0) (hn : Region.wanted o (yielded ops a.tmps) = true) (h : wpList P ops Q rest (a.put o.dst v) w) : wpList P ops Q (o :: rest) a w := by subst hw; exact wpList_val hn (exec_load ho hp hl) h
theorem wstore (w0 : World) {t : TypeId} {x y : Operand} {xv yv : Value} (ho : o.op = .store t x y) (hw : w = w0) (hx : a.eval x = xv) (hy : a.eval y = yv) (hl : (Instr.storeAt t xv yv).run P w0 = .ok () w2) (hn : Region.wanted o (yielded ops a.tmps) = true) (hd : o.dst = none) (h : wpList P ops Q rest a w2) : wpList P ops Q (o :: rest) a w := by subst hw; exact wpList_skip hn hd (exec_store ho hx hy hl) h
theorem walloc (w0 : World) {t : TypeId} {v : Value} (ho : o.op = .alloc t) (hw : w = w0) (hl : (Instr.alloc t true (.tuple #[])).run P w0 = .ok v w2) (hn : Region.wanted o (yielded ops a.tmps) = true) (h : wpList P ops Q rest (a.put o.dst v) w2) : wpList P ops Q (o :: rest) a w := by subst hw; exact wpList_run hn (exec_alloc ho hl) h
theorem wbuild0 {t : TypeId} {v : Value} (ho : o.op = .build t #[]) (hl : (Instr.build t #[]).run P w = .ok v w) (hn : Region.wanted o (yielded ops a.tmps) = true) (h : wpList P ops Q rest (a.put o.dst v) w) : wpList P ops Q (o :: rest) a w := wpList_val hn (exec_build0 ho hl) h
theorem wbin {b : BinOp} {t t2 : TypeId} {x y : Operand} {xv yv v : Value} (ho : o.op = .binOp b t x y t2) (hx : a.eval x = xv) (hy : a.eval y = yv) (hg : (eqGuard b t x y xv yv).run P w = .ok () w) (hl : (binOp b t xv yv).run P w = .ok v w) (hn : Region.wanted o (yielded ops a.tmps) = true) (h : wpList P ops Q rest (a.put o.dst v) w) : wpList P ops Q (o :: rest) a w := wpList_val hn (exec_binOp ho hx hy hg hl) h
theorem wbs {t n : Nat} {x : Operand} {xv v : Value} (ho : o.op = .buildSlice t n #[(0, x)]) (hx : a.eval x = xv) (hl : (Instr.buildSlice t n #[(0, xv)]).run P w = .ok v w2) (hn : Region.wanted o (yielded ops a.tmps) = true) (h : wpList P ops Q rest (a.put o.dst v) w2) : wpList P ops Q (o :: rest) a w := wpList_run hn (exec_buildSlice ho hx hl) h
theorem wapp {x y : Operand} {ts : Array TypeId} {xv yv v : Value} (ho : o.op = .call { callee := .builtin .append, args := #[x, y], argTypes := ts }) (hx : a.eval x = xv) (hy : a.eval y = yv) (hl : (Builtin.append_ ts o.type #[xv, yv]).run P w = .ok v w2) (hn : Region.wanted o (yielded ops a.tmps) = true) (h : wpList P ops Q rest (a.put o.dst v) w2) : wpList P ops Q (o :: rest) a w := wpList_run hn (exec_append ho hx hy hl) h
end
end Go.Proofs.Ytoofljkgdjjllab

namespace Go.Proofs.Ytoofljkgdjjllab
open Go.RowKit
set_option linter.unusedVariables false
set_option linter.unusedSimpArgs false

/-- A box of an Id. -/
theorem one_box (w : World) (k : IdK) : IdAt (w.alloc (.cells k.c.toArray 35)) w.heap.size k ∧ Below w.heap.size w (w.alloc (.cells k.c.toArray 35)) ∧ (w.alloc (.cells k.c.toArray 35)).heap.size = w.heap.size + 1 :=
  ⟨heap_alloc_new _ _, (Below.refl _ _).alloc (Nat.le_refl _) _, by simp⟩
theorem idbox_new (w : World) (x : IdK) (hx : x.ok) : ∃ w1 w2, (Instr.alloc 35 true (.tuple #[])).run Try.prog w = .ok (.pointer (some ⟨w.heap.size, 0, none⟩)) w1 ∧ (Instr.storeAt 35 (.pointer (some ⟨w.heap.size, 0, none⟩)) x.v).run Try.prog w1 = .ok () w2 ∧ Below w.heap.size w w2 ∧ IdAt w2 w.heap.size x ∧ w.heap.size < w2.heap.size := by
  obtain ⟨w1, e1, e2⟩ := id_new w x hx
  obtain ⟨h1, h2, h3⟩ := one_box w x
  exact ⟨w1, _, e1, e2, h2, h1, by omega⟩
theorem Own.uok {B : Nat} {w : World} {s : Tr} {H : List Rec} {f : Fn} (h : Own B w s H f) (k : IdK) : (nd f k).u.ok := by
  have := nd_ok h.tree.tr k
  rwa [h.eq] at this
theorem Climb.mem_ok {f : Fn} {D : List IdK} (hD : Dom f D) (hf : Forest f) {k : IdK} {l : List IdK} {p : Bool} (hk : k.ok) (hs : (f k).isSome = true) (hc : Climb f k l p) {i : Nat} {x : IdK} (hx : (k :: l)[i]? = some x) : x.ok ∧ (f x).isSome = true := by
  rcases List.mem_cons.1 (List.mem_of_getElem? hx) with rfl | hm
  · exact ⟨hk, hs⟩
  · have := hc.there hf x hm
    exact ⟨hD.ok x ((hD.mem x).2 this), this⟩
set_option maxRecDepth 100000 in
set_option maxHeartbeats 4000000 in
/-- climbs. -/
theorem climbs_any {B : Nat} {w : World} {s : Tr} {H : List Rec} {f : Fn} (h : Own B w s H f) {D : List IdK} (hD : Dom f D) (hl : D.length ≤ 2600000000000) (k : IdK) (hk : k.ok) (n : Nat) (hnn : D.length = n) :
    Calls Try.prog 17 #[.pointer (some ⟨s.t, 0, none⟩), k.v, .int .i64 (n : Int)] w fun e w' => e = .returned (.bool true) ∧ Below w.heap.size w w' := by
  have HU := hidMk (fun (W : World) (b : Below w.heap.size w W) (x : IdK) (hx : x.ok) => under_own (h.below b) x hx)
  have HLV := hidMk (fun (W : World) (b : Below w.heap.size w W) => live_own (h.below b) hD hl k hk)
  have HDP := hidMk (fun (W : World) (b : Below w.heap.size w W) => deep_own (h.below b) hD hl k hk)
  have HUO := hidMk h.uok
  have HF := hidMk h.ft
  have HD := hidMk hD
  obtain ⟨l, p, hc⟩ := h.ft.ends k
  have hle := climb_le h.ft hD hc
  rw [hnn] at hle hl
  have HC := hidMk hc
  have HLE := hidMk hle
  clear h hD hc hle hnn
  obtain ⟨kv, hkv⟩ : ∃ kv, k.v = kv := ⟨_, rfl⟩
  unfold IdK.v
  go_enter Try.func17, Try.ntmps17
  go_upto_region 1 with fail
  obtain ⟨ik, bk, zk⟩ := one_box w k
  generalize w.alloc (.cells k.c.toArray 35) = w1 at *
  have ltk : w.heap.size < w1.heap.size := by omega
  clear zk hkv
  have LK := hidMk (load_id hk ik)
  cases hs : (f k).isSome with
  | false =>
    have HS := hidMk hs
    clear hs
    go_wp2_with (first
      | (refine wload w1 (t := 35) (u := .pointer (some ⟨w.heap.size, 0, none⟩)) (v := k.v) rfl rfl rfl LK.out rfl ?_)
      | (go_at_call 18; refine (HDP.out _ bk).mono ?_; rintro e w2 ⟨d, rfl, hd, b2⟩; obtain rfl : d = -1 := hd.unique (Or.inl ⟨HS.out, rfl⟩); have c2 := bk.trans (b2.mono bk.size); have LK2 := hidMk (load_id hk ((b2.block _ ltk).trans ik)); clear HDP hd LK)
      | (refine wload w2 (t := 35) (u := .pointer (some ⟨w.heap.size, 0, none⟩)) (v := k.v) rfl rfl rfl LK2.out rfl ?_)
      | (go_at_call 14; refine (HU.out _ c2 k hk).mono ?_; rintro e w3 ⟨rfl, b3⟩; have c3 := c2.trans (b3.mono c2.size); obtain ⟨w4, w5, e4, e5, b5, i5, z5⟩ := idbox_new w3 (nd f k).u (HUO.out k); have E4 := hidMk e4; have E5 := hidMk e5; have c5 := c3.trans (b5.mono c3.size); have LK5 := hidMk (load_id hk (((b2.trans (b3.mono b2.size)).trans (b5.mono (b2.trans (b3.mono b2.size)).size)).block _ ltk |>.trans ik)); rw [HS.out, Bool.false_and]; clear e4 e5 LK2)
      | (refine walloc w3 (t := 35) (v := .pointer (some ⟨w3.heap.size, 0, none⟩)) (w2 := w4) rfl rfl E4.out rfl ?_)
      | (refine wstore w4 (t := 35) (xv := .pointer (some ⟨w3.heap.size, 0, none⟩)) (yv := (nd f k).u.v) (w2 := w5) rfl rfl rfl rfl E5.out rfl rfl ?_)
      | (refine wload w5 (t := 35) (u := .pointer (some ⟨w.heap.size, 0, none⟩)) (v := k.v) rfl rfl rfl LK5.out rfl ?_)
      | (go_at_call 15; refine (HLV.out _ c5).mono ?_; rintro e w6 ⟨bb, rfl, hb, b6⟩; obtain rfl : bb = false := hb.unique (Or.inl ⟨HS.out, rfl⟩); have c6 := c5.trans (b6.mono c5.size); clear HLV hb)
      | fail)
    go_ret
    exact ⟨rfl, c6⟩
  | true =>
    have HS := hidMk hs
    have hd0 : DeepIs f k (l.length : Int) := Or.inr ⟨hs, l, p, HC.out, rfl⟩
    have HD0 := hidMk hd0
    have hl0 : LiveIs f k (!p) := Or.inr ⟨hs, l, p, HC.out, rfl⟩
    have HL0 := hidMk hl0
    clear hs hd0 hl0
    obtain ⟨m, hm⟩ : ∃ m, l.length = m := ⟨_, rfl⟩
    rw [hm] at HD0 HLE
    have HM := hidMk hm
    clear hm
    go_upto_region 4 with (first
      | (refine wload w1 (t := 35) (u := .pointer (some ⟨w.heap.size, 0, none⟩)) (v := k.v) rfl rfl rfl LK.out rfl ?_)
      | (go_at_call 18; refine (HDP.out _ bk).mono ?_; rintro e w2 ⟨d, rfl, hd, b2⟩; obtain rfl : d = (m : Int) := hd.unique HD0.out; have c2 := bk.trans (b2.mono bk.size); have LK2 := hidMk (load_id hk ((b2.block _ ltk).trans ik)); clear hd LK)
      | fail)
    obtain ⟨w4, w5, e4, e5, b5, i5, z5⟩ := idbox_new w2 k hk
    have E4 := hidMk e4
    have E5 := hidMk e5
    have c5 := c2.trans (b5.mono c2.size)
    have ik5 : IdAt w5 w.heap.size k := ((b2.trans (b5.mono b2.size)).block _ ltk).trans ik
    obtain ⟨nb, hnb⟩ : ∃ nb, w2.heap.size = nb := ⟨_, rfl⟩
    have hnb2 : w.heap.size < nb := by rw [← hnb]; exact Nat.lt_of_lt_of_le ltk b2.size
    rw [hnb] at i5 E4 E5 z5
    clear e4 e5 hnb b5
    go_wp2_with (first
      | (refine wload w2 (t := 35) (u := .pointer (some ⟨w.heap.size, 0, none⟩)) (v := k.v) rfl rfl rfl LK2.out rfl ?_)
      | (refine walloc w2 (t := 35) (v := .pointer (some ⟨nb, 0, none⟩)) (w2 := w4) rfl rfl E4.out rfl ?_)
      | (refine wstore w4 (t := 35) (xv := .pointer (some ⟨nb, 0, none⟩)) (yv := k.v) (w2 := w5) rfl rfl rfl rfl E5.out rfl rfl ?_)
      | fail)
    clear E4 E5 LK2 bk ik b2 c2 ltk
    go_loopw [11, 12] (fun v11 v12 wr => ∃ (i : Nat) (x : IdK), v11 = .int .i64 (i : Int) ∧ v12 = .int .i64 (i : Int) ∧ (k :: l)[i]? = some x ∧ IdAt wr w.heap.size k ∧ IdAt wr nb x ∧ Below w.heap.size w wr) (fun v11 v12 wr => n + 1 - (match v12 with | .int _ i => i.toNat | _ => 0))
    case atStart => exact ⟨0, k, rfl, rfl, rfl, ik5, i5, c5⟩
    case round =>
      clear ik5 i5 c5 z5
      obtain ⟨i, x, rfl, rfl, hx, ikr, ixr, bel⟩ := hrel
      have him : i ≤ m := by
        have := (List.getElem?_eq_some_iff.1 hx).1
        have e := HM.out
        rw [List.length_cons, e] at this
        omega
      have hin : i ≤ n := Nat.le_trans him HLE.out
      obtain ⟨hxo, hxs⟩ := HC.out.mem_ok HD.out HF.out hk HS.out hx
      have hcx := HC.out.at i hx
      have LX := hidMk (load_id hxo ixr)
      have ltn : nb < wr.heap.size := (Array.getElem?_eq_some_iff.1 ixr).1
      have hno := HUO.out x
      have HXS := hidMk hxs
      have HX := hidMk hx
      clear hx hxs
      have pre : ∀ Q : Prop, Q → Q := fun _ h => h
      cases hdr : l.drop i with
      | nil =>
        rw [hdr] at hcx
        obtain ⟨hst, hpp⟩ := hcx.stop
        have hie : i = m := by
          have := List.drop_eq_nil_iff.1 hdr
          rw [HM.out] at this
          omega
        subst hie
        have HST := hidMk hst
        have HPP := hidMk hpp
        clear hst hpp hcx hdr
        cases hpr : (nd f x).pr with
        | true =>
          have hok : ((f x).isSome && !(nd f x).pr) = false := by rw [HXS.out, hpr]; rfl
          have HOK := hidMk hok
          have HPT := hidMk (show p = true by rw [HPP.out, hpr])
          clear hok hpr
          go_wp2_with (first
            | (refine wload wr (t := 35) (u := .pointer (some ⟨nb, 0, none⟩)) (v := x.v) rfl rfl rfl LX.out rfl ?_)
            | (go_at_call 14; refine (HU.out _ bel x hxo).mono ?_; rintro e w3 ⟨rfl, b3⟩; have c3 := bel.trans (b3.mono bel.size); obtain ⟨w4, w5, e4, e5, b5, i5, z5⟩ := idbox_new w3 (nd f x).u hno; have E4 := hidMk e4; have E5 := hidMk e5; have c5 := c3.trans (b5.mono c3.size); have LK5 := hidMk (load_id hk (((b3.trans (b5.mono b3.size)).block _ (by omega)).trans ikr)); rw [HOK.out]; clear e4 e5 LX)
            | (refine walloc w3 (t := 35) (v := .pointer (some ⟨w3.heap.size, 0, none⟩)) (w2 := w4) rfl rfl E4.out rfl ?_)
            | (refine wstore w4 (t := 35) (xv := .pointer (some ⟨w3.heap.size, 0, none⟩)) (yv := (nd f x).u.v) (w2 := w5) rfl rfl rfl rfl E5.out rfl rfl ?_)
            | (refine wload w5 (t := 35) (u := .pointer (some ⟨w.heap.size, 0, none⟩)) (v := k.v) rfl rfl rfl LK5.out rfl ?_)
            | (go_at_call 18; refine (HDP.out _ c5).mono ?_; rintro e w6 ⟨d, rfl, hd, b6⟩; obtain rfl : d = (i : Int) := hd.unique HD0.out; have c6 := c5.trans (b6.mono c5.size); have LK6 := hidMk (load_id hk ((((b3.trans (b5.mono b3.size)).trans (b6.mono (b3.trans (b5.mono b3.size)).size)).block _ (by omega)).trans ikr)); clear hd LK5)
            | (refine wload w6 (t := 35) (u := .pointer (some ⟨w.heap.size, 0, none⟩)) (v := k.v) rfl rfl rfl LK6.out rfl ?_)
            | (go_at_call 15; refine (HLV.out _ c6).mono ?_; rintro e w7 ⟨bb, rfl, hb, b7⟩; obtain rfl : bb = false := hb.unique (by have := HL0.out; rw [HPT.out] at this; exact this); have c7 := c6.trans (b7.mono c6.size); clear hb)
            | fail)
          go_ret
          exact ⟨rfl, c7⟩
        | false =>
          have hok : ((f x).isSome && !(nd f x).pr) = true := by rw [HXS.out, hpr]; rfl
          have HOK := hidMk hok
          have HPT := hidMk (show p = false by rw [HPP.out, hpr])
          have hz : (nd f x).u = zId := by
            rcases HST.out with q | q
            · rw [hpr] at q; cases q
            · exact q
          have HQ := hidMk (fun W : World => show (binOp .eql 35 (nd f x).u.v zId.v).run Try.prog W = .ok (.bool true) W by rw [eql_id _ _ hno zId_ok, hz]; simp)
          clear hok hpr hz
          go_wp2_with (first
            | (refine wload wr (t := 35) (u := .pointer (some ⟨nb, 0, none⟩)) (v := x.v) rfl rfl rfl LX.out rfl ?_)
            | (go_at_call 14; refine (HU.out _ bel x hxo).mono ?_; rintro e w3 ⟨rfl, b3⟩; have c3 := bel.trans (b3.mono bel.size); obtain ⟨w4, w5, e4, e5, b5, i5, z5⟩ := idbox_new w3 (nd f x).u hno; have E4 := hidMk e4; have E5 := hidMk e5; have c5 := c3.trans (b5.mono c3.size); have LK5 := hidMk (load_id hk (((b3.trans (b5.mono b3.size)).block _ (by omega)).trans ikr)); have LU5 := hidMk (load_id hno i5); rw [HOK.out]; clear e4 e5 LX)
            | (refine walloc w3 (t := 35) (v := .pointer (some ⟨w3.heap.size, 0, none⟩)) (w2 := w4) rfl rfl E4.out rfl ?_)
            | (refine wstore w4 (t := 35) (xv := .pointer (some ⟨w3.heap.size, 0, none⟩)) (yv := (nd f x).u.v) (w2 := w5) rfl rfl rfl rfl E5.out rfl rfl ?_)
            | (refine wload w5 (t := 35) (u := .pointer (some ⟨w3.heap.size, 0, none⟩)) (v := (nd f x).u.v) rfl rfl rfl LU5.out rfl ?_)
            | (refine wbuild0 rfl (build_id _) rfl ?_)
            | (refine wbin (xv := (nd f x).u.v) (yv := zId.v) rfl rfl rfl (guard_id _ _ (nd f x).u zId _ _) (HQ.out _) rfl ?_)
            | (refine wload w5 (t := 35) (u := .pointer (some ⟨w.heap.size, 0, none⟩)) (v := k.v) rfl rfl rfl LK5.out rfl ?_)
            | (go_at_call 18; refine (HDP.out _ c5).mono ?_; rintro e w6 ⟨d, rfl, hd, b6⟩; obtain rfl : d = (i : Int) := hd.unique HD0.out; have c6 := c5.trans (b6.mono c5.size); have LK6 := hidMk (load_id hk ((((b3.trans (b5.mono b3.size)).trans (b6.mono (b3.trans (b5.mono b3.size)).size)).block _ (by omega)).trans ikr)); clear hd LK5)
            | (refine wload w6 (t := 35) (u := .pointer (some ⟨w.heap.size, 0, none⟩)) (v := k.v) rfl rfl rfl LK6.out rfl ?_)
            | (go_at_call 15; refine (HLV.out _ c6).mono ?_; rintro e w7 ⟨bb, rfl, hb, b7⟩; obtain rfl : bb = true := hb.unique (by have := HL0.out; rw [HPT.out] at this; exact this); have c7 := c6.trans (b7.mono c6.size); clear hb)
            | fail)
          go_ret
          exact ⟨rfl, c7⟩
      | cons u rest =>
        rw [hdr] at hcx
        obtain ⟨hpr, huz, hu, _⟩ := hcx.next
        have hul : l[i]? = some u := by
          rw [← List.head?_drop, hdr]; rfl
        have huk : u ≠ k := fun e => HC.out.self (by rw [← e]; exact List.mem_of_getElem? hul)
        have him2 : i < m := by have := (List.getElem?_eq_some_iff.1 hul).1; rw [HM.out] at this; exact this
        have hok : ((f x).isSome && !(nd f x).pr) = true := by rw [HXS.out, hpr]; rfl
        have HOK := hidMk hok
        rw [hu] at huz
        have huo : u.ok := hu ▸ hno
        have HQ := hidMk (fun W : World => show (binOp .eql 35 u.v zId.v).run Try.prog W = .ok (.bool false) W by rw [eql_id _ _ huo zId_ok, decide_eq_false huz])
        have HQ2 := hidMk (fun W : World => show (binOp .eql 35 u.v k.v).run Try.prog W = .ok (.bool false) W by rw [eql_id _ _ huo hk, decide_eq_false huk])
        have HEU := hidMk hu
        have HNX := hidMk (show (k :: l)[i + 1]? = some u by rw [List.getElem?_cons_succ]; exact hul)
        clear hok hpr hcx hdr huz hu huk hul
        go_wp2_with (first
          | (refine wload wr (t := 35) (u := .pointer (some ⟨nb, 0, none⟩)) (v := x.v) rfl rfl rfl LX.out rfl ?_)
          | (go_at_call 14; refine (HU.out _ bel x hxo).mono ?_; rintro e w3 ⟨rfl, b3⟩; have c3 := bel.trans (b3.mono bel.size); obtain ⟨w4, w5, e4, e5, b5, i5, z5⟩ := idbox_new w3 u huo; have E4 := hidMk e4; have E5 := hidMk e5; have c5 := c3.trans (b5.mono c3.size); have b35 := b3.trans (b5.mono b3.size); have ik5 := (b35.block _ (by omega)).trans ikr; have ix5 := (b35.block _ ltn).trans ixr; have LK5 := hidMk (load_id hk ik5); have LU5 := hidMk (load_id huo i5); rw [HOK.out, HEU.out]; have ST5 := hidMk (store_id hxo huo ix5); have IX5 := hidMk ix5; have IK5 := hidMk ik5; have C5 := hidMk c5; clear e4 e5 LX ik5 ix5)
          | (refine walloc w3 (t := 35) (v := .pointer (some ⟨w3.heap.size, 0, none⟩)) (w2 := w4) rfl rfl E4.out rfl ?_)
          | (refine wstore w4 (t := 35) (xv := .pointer (some ⟨w3.heap.size, 0, none⟩)) (yv := u.v) (w2 := w5) rfl rfl rfl rfl E5.out rfl rfl ?_)
          | (refine wload w5 (t := 35) (u := .pointer (some ⟨w3.heap.size, 0, none⟩)) (v := u.v) rfl rfl rfl LU5.out rfl ?_)
          | (refine wbuild0 rfl (build_id _) rfl ?_)
          | (refine wbin (xv := u.v) (yv := zId.v) rfl rfl rfl (guard_id _ _ u zId _ _) (HQ.out _) rfl ?_)
          | (refine wload w5 (t := 35) (u := .pointer (some ⟨w.heap.size, 0, none⟩)) (v := k.v) rfl rfl rfl LK5.out rfl ?_)
          | (refine wbin (xv := u.v) (yv := k.v) rfl rfl rfl (guard_id _ _ u k _ _) (HQ2.out _) rfl ?_)
          | (refine wstore w5 (t := 35) (xv := .pointer (some ⟨nb, 0, none⟩)) (yv := u.v) (w2 := w5.setRow nb u.c.toArray) rfl rfl rfl rfl ST5.out rfl rfl ?_)
          | fail)
        rw [show ((i : Int) + 1) = ((i + 1 : Nat) : Int) by omega]
        refine ⟨⟨i + 1, u, rfl, rfl, HNX.out, (setRow_other _ _ _ _ (by omega)).trans IK5.out, IdAt.set u IX5.out, C5.out.trans (below_setRow _ _ _ _ (by omega))⟩, ?_⟩
        show n + 1 - ((i + 1 : Nat) : Int).toNat < n + 1 - (i : Int).toNat
        omega
end Go.Proofs.Ytoofljkgdjjllab

namespace Go.Proofs.Ytoofljkgdjjllab
open Go.RowKit
set_option linter.unusedVariables false
set_option linter.unusedSimpArgs false

theorem dom_presW {f f2 : Fn} {D D2 : List IdK} (h : Dom f D) (h2 : Dom f2 D2) (hp : ∀ x, (f x).isSome = (f2 x).isSome) : D.length = D2.length :=
  Nat.le_antisymm (nodup_le h.nd (fun x hx => (h2.mem x).2 (by rw [← hp]; exact (h.mem x).1 hx))) (nodup_le h2.nd (fun x hx => (h.mem x).2 (by rw [hp]; exact (h2.mem x).1 hx)))
theorem pres_lenW {f : Fn} {D : List IdK} {P : IdK → Bool} (hD : Dom f D) (hp : ∀ x, (f x).isSome = P x) : ∀ m : Nat, (∃ f2 D2, Dom f2 D2 ∧ D2.length = m ∧ ∀ x, (f2 x).isSome = P x) → m = D.length := by
  rintro m ⟨f2, D2, d1, rfl, d3⟩
  exact (dom_presW hD d1 (fun x => by rw [hp, d3])).symm
/-- Loads of a row of Ids, in whatever world comes. -/
theorem IdsAt.ld {w : World} {a : Option Addr} {L : List IdK} (h : IdsAt w a L) (ok : ∀ x ∈ L, x.ok) {i : Nat} {x : IdK} (hx : L[i]? = some x) : ∃ b o, a = some ⟨b, o, none⟩ ∧ ∀ j y, L[j]? = some y → ∀ W, Below w.heap.size w W → (Instr.loadAt 35 (.pointer (some ⟨b, o + j * 33, none⟩))).run Try.prog W = .ok y.v W := by
  rcases h with rfl | ⟨b, o, e, h1, h2⟩
  · simp at hx
  · refine ⟨b, o, e, fun j y hy W hW => load_id_at (ok y (List.mem_of_getElem? hy)) (rangeAt_keep ?_ (hW.block _ h1))⟩
    rw [Nat.mul_comm]
    exact h2 j y hy
theorem nodup_get {α : Type} {L : List α} (h : L.Nodup) {i j : Nat} {x y : α} (hi : L[i]? = some x) (hj : L[j]? = some y) (hne : i ≠ j) : x ≠ y := by
  rintro rfl
  obtain ⟨h1, e1⟩ := List.getElem?_eq_some_iff.1 hi
  obtain ⟨h2, e2⟩ := List.getElem?_eq_some_iff.1 hj
  exact hne ((List.getElem_inj h).1 (e1.trans e2.symm))
theorem mem_take_succ {L : List IdK} {k : Nat} {x y : IdK} (hy : L[k]? = some y) : decide (x ∈ L.take (k + 1)) = (decide (x ∈ L.take k) || decide (y = x)) := by
  rw [List.take_add_one, hy, Bool.eq_iff_iff]
  simp only [decide_eq_true_eq, Option.toList_some, List.mem_append, List.mem_singleton, Bool.or_eq_true]
  constructor
  · rintro (h | h)
    · exact Or.inl h
    · exact Or.inr h.symm
  · rintro (h | h)
    · exact Or.inl h
    · exact Or.inr h.symm
theorem walk_okW {f : Fn} {D L : List IdK} (hD : Dom f D) (h : IsWalk f L) : ∀ x ∈ L, x.ok := fun x hx => hD.ok x ((hD.mem x).2 (h.there x hx))
/-- Under's answer, its Id in a box. -/
def Boxed (W : World) (u : IdK) (p : Value) (w2 : World) : Prop := ∃ nb, p = .pointer (some ⟨nb, 0, none⟩) ∧ IdAt w2 nb u ∧ Below W.heap.size W w2 ∧ W.heap.size ≤ nb ∧ nb < w2.heap.size
theorem boxed {W : World} {F : Nat} {vs : Array Value} {u : IdK} {kv okv : Value} (hu : u.ok) (h : Calls Try.prog F vs W fun e w' => e = .returned (.tuple #[u.v, kv, okv]) ∧ Below W.heap.size W w') :
    Calls Try.prog F vs W fun e w' => e = .returned (.tuple #[u.v, kv, okv]) ∧ ∃ p w1 w2, (Instr.alloc 35 true (.tuple #[])).run Try.prog w' = .ok p w1 ∧ (Instr.storeAt 35 p u.v).run Try.prog w1 = .ok () w2 ∧ Boxed W u p w2 := by
  refine h.mono ?_
  rintro e w' ⟨rfl, b⟩
  obtain ⟨w1, w2, e1, e2, b2, i2, z2⟩ := idbox_new w' u hu
  exact ⟨rfl, _, w1, w2, e1, e2, _, rfl, i2, b.trans (b2.mono b.size), b.size, z2⟩
theorem under_boxed {B : Nat} {w : World} {s : Tr} {H : List Rec} {f : Fn} (h : Own B w s H f) {x u : IdK} (hx : x.ok) (hu : (nd f x).u = u) {ok : Bool} (hok : ((f x).isSome && !(nd f x).pr) = ok) {t : Nat} (ht : s.t = t) :
    Calls Try.prog 14 #[.pointer (some ⟨t, 0, none⟩), x.v] w fun e w' => e = .returned (.tuple #[u.v, .string (nd f x).key, .bool ok]) ∧ ∃ p w1 w2, (Instr.alloc 35 true (.tuple #[])).run Try.prog w' = .ok p w1 ∧ (Instr.storeAt 35 p u.v).run Try.prog w1 = .ok () w2 ∧ Boxed w u p w2 := by
  subst hu hok ht
  exact boxed (h.uok x) (under_own h x hx)
end Go.Proofs.Ytoofljkgdjjllab

namespace Go.Proofs.Ytoofljkgdjjllab
open Go.RowKit
set_option linter.unusedVariables false

section
variable {P : Program} {ops : Array Oper} {rest : List Oper} {o : Oper} {a : Act} {w w2 : World} {Q : Exit → Act → World → Prop}
/-- A step of a quiet region that gives a value. -/
theorem qk {v : Value} {d : Nat} (hw : Region.wanted o (yielded ops a.tmps) = true) (hr : (execOp a.eval o).run P w = .ok (.value v) w2) (h : ∀ a', a' = a.put (some d) v → wpList P ops Q rest a' w2) (hd : o.dst = some d := by rfl) : wpList P ops Q (o :: rest) a w :=
  wpList_step fun K hK => by
    rw [if_pos hw]
    unfold Oper.wp
    rw [hr]
    exact hK _ _ (by rw [hd]; exact h _ rfl)
/-- A store. -/
theorem qs (hw : Region.wanted o (yielded ops a.tmps) = true) (hr : (execOp a.eval o).run P w = .ok .skip w2) (h : wpList P ops Q rest a w2) (hd : o.dst = none := by rfl) : wpList P ops Q (o :: rest) a w :=
  wpList_step fun K hK => by
    rw [if_pos hw]
    unfold Oper.wp
    rw [hr]
    exact hK _ _ (by rw [hd]; exact h)
end
end Go.Proofs.Ytoofljkgdjjllab

namespace Go.Proofs.Ytoofljkgdjjllab
open Go.RowKit
set_option linter.unusedVariables false

section
variable {P : Program} {ops : Array Oper} {rest : List Oper} {o : Oper} {a : Act} {w w2 : World} {Q : Exit → Act → World → Prop}
/-- A step that gives a value, and changes nothing. -/
theorem qv {v : Value} {d : Nat} (hw : Region.wanted o (yielded ops a.tmps) = true) (hr : (execOp a.eval o).run P w = .ok (.value v) w) (h : ∀ a', a' = a.put (some d) v → wpList P ops Q rest a' w) (hd : o.dst = some d := by rfl) : wpList P ops Q (o :: rest) a w := qk hw hr h hd
/-- A step that is not wanted. -/
theorem qn {d : Nat} (hw : Region.wanted o (yielded ops a.tmps) = false) (h : ∀ a', a' = a.put (some d) undef → wpList P ops Q rest a' w) (hd : o.dst = some d := by rfl) : wpList P ops Q (o :: rest) a w :=
  wpList_step fun K hK => by
    rw [if_neg (by rw [hw]; decide), hd]
    exact hK _ _ (h _ rfl)
/-- A call. -/
theorem qc {F : Nat} {vs : Array Value} {R : Ending → World → Prop} {d : Nat} (hw : Region.wanted o (yielded ops a.tmps) = true) (hr : (execOp a.eval o).run P w = .ok (.enter F vs) w) (hC : Calls P F vs w R) (h : ∀ e w', R e w' → ∃ v, e = .returned v ∧ ∀ a', a' = a.put (some d) v → wpList P ops Q rest a' w') (hd : o.dst = some d := by rfl) : wpList P ops Q (o :: rest) a w :=
  wpList_step fun K hK => by
    rw [if_pos hw]
    unfold Oper.wp
    rw [hr, Oper.upon_enter]
    refine hC.mono ?_
    intro e w' hp
    obtain ⟨v, rfl, hh⟩ := h e w' hp
    exact hK _ _ (by rw [hd]; exact hh _ rfl)
end
end Go.Proofs.Ytoofljkgdjjllab

