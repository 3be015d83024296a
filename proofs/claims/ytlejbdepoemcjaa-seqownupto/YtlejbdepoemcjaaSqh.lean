import Derived.Test.YtlejbdepoemcjaaSqg
namespace Go.Proofs.Ytlejbdepoemcjaa
open Go.RowKit Sq
set_option linter.unusedVariables false
set_option linter.unusedSimpArgs false

/-- A sequence behind a call that may have changed it. -/
structure Nxt (s : Sx) (w : World) (s' : Sx) (E' : List Elt) (w' : World) : Prop where
  at' : SeqAt w' s' E'
  sb : s'.sb = s.sb
  mb : s'.mb = s.mb
  own : s'.g = s.g ∨ w.heap.size ≤ s'.g
  tch : Tch (fun j => j ∈ s.bl) w w'
theorem tch_below {w w' : World} (h : Below w.heap.size w w') (O : Nat → Prop) : Tch O w w' := Tch.of_below h (fun k hk hb => by omega)
theorem Nxt.same {s : Sx} {w w' : World} {E : List Elt} (h : SeqAt w s E) (b : Below w.heap.size w w') : Nxt s w s E w' := ⟨h.below b, rfl, rfl, .inl rfl, tch_below b _⟩
theorem SeqAt.did {w w' : World} {s : Sx} {E E' : List Elt} {L' : List Sp} {t' : T} (h : SeqAt w s E) (d : Did w s.sb 1 s.g s.cap L' w') (lk : Lk { s with L := L', t := t' } E') : SeqAt w' { s with L := L', t := t' } E' :=
  ⟨(World.cell?_of_block (a := ⟨s.sb, 0, none⟩) (d.tch.block s.sb h.row.lt.1 h.row.ne)).trans h.c0, d.at', h.map.below (d.tch.block s.mb h.map.lt (fun e => h.nm.2 e.symm)), h.nm, lk⟩
theorem SeqAt.keys {w : World} {s : Sx} {E : List Elt} (h : SeqAt w s E) : (s.N.map (·.1)).Nodup := by
  have := h.map.2.1
  unfold entM at this
  rwa [M.onV_keys] at this
theorem put_entM (N : List (IdK × Nat)) (k : IdK) (n : Nat) : M.put (entM N) k (Value.int .i64 (n : Int)) = entM (M.put N k n) := M.put_on (fun n : Nat => Value.int .i64 (n : Int)) N k n
theorem del_entM (N : List (IdK × Nat)) (k : IdK) : M.del (entM N) k = entM (M.del N k) := M.del_on _ N k
theorem showE_none {E : List Elt} {k : IdK} (h : hasE E k = false) (b : Bool) : showE E k b = E := by
  unfold showE
  conv => rhs; rw [← List.map_id E]
  refine List.map_congr_left fun e he => ?_
  rw [if_neg (fun q => by have : hasE E k = true := hasE_iff.2 ⟨e, he, q⟩; rw [h] at this; cases this)]
  rfl
def showC (E : List Elt) (k : IdK) : Nat := if hasE E k = true then 0 else 4
def insC (E : List Elt) (k b : IdK) : Nat := if k.n < 1 then 2 else if hasE E k = true then 5 else if b ≠ zId ∧ hasE E b = false then 4 else 0
def insR (E : List Elt) (k b : IdK) : List Elt := if insC E k b = 0 then putE E b ⟨k, b, true⟩ else E
def takC (E : List Elt) (k : IdK) : Nat := if hasE E k = false then 4 else if 0 < folE E k then 90 else 0
def takR (E : List Elt) (k : IdK) : List Elt := if takC E k = 0 then remE E k else E
section
variable {w : World} {s : Sx} {E : List Elt}
set_option maxRecDepth 100000 in
set_option maxHeartbeats 2000000 in
theorem show_any (h : SeqAt w s E) {k : IdK} (hk : k.ok) (b : Bool) : Calls Try.prog 14 #[.pointer (some ⟨s.sb, 0, none⟩), k.v, .bool b] w fun e w' => e = .returned (.int .i64 (showC E k : Int)) ∧ ∃ s', Nxt s w s' (showE E k b) w' := by
  have bx : Below w.heap.size w (w.alloc (.cells k.c.toArray 32)) := (Below.refl _ _).alloc (Nat.le_refl _) _
  have hx := id_new w k
  have HA : Hid (∀ W, SeqAt W s E → Calls Try.prog 31 #[.pointer (some ⟨s.sb, 0, none⟩), k.v] W fun e w' => e = .returned (.bool (hasE E k)) ∧ Below W.heap.size W w') := fun W hW => has_any hW hk
  show Calls Try.prog 14 #[.pointer (some ⟨s.sb, 0, none⟩), .agg k.c.toArray, .bool b] w _
  go_enter Try.func14, Try.ntmps14
  go_upto_region 3 with fail
  generalize w.alloc (.cells k.c.toArray 32) = wx at *
  have h1 := h.below bx
  refine show3 (k := k) (r := hasE E k) _ _ _ rfl rfl rfl hk hx (HA.out _ h1) ?_
  intro a' w1 hw ha
  subst ha
  have h2 := h1.below hw
  have hx2 := hx.below hw
  have b2 := bx.trans (hw.mono bx.size)
  clear HA
  simp only [Act.put, List.setIfInBounds_toArray, List.set_cons_zero, List.set_cons_succ]
  cases hq : hasE E k with
  | false =>
    have HQ := hidMk hq
    clear hq
    go_wp2
    go_ret
    exact ⟨by unfold showC; rw [HQ.out]; rfl, s, by rw [showE_none HQ.out]; exact Nxt.same h b2⟩
  | true =>
    have HQ := hidMk hq
    have HS := hidMk (rshow_any h2.drew.row h.lk.good (h.lk.spot hq).1 b)
    have HL := hidMk (fun (L' : List Sp) (t' : T) (a1 : Good L' t') (a2 : t'.ids = s.t.ids) (a3 : Kept (setSh s.L (spotOf s k) b) L') => h.lk.show (b := b) hq a1 a2 a3)
    clear hq
    go_upto_region 5 with fail
    refine show5 (E := E) (k := k) (fun w' => ∃ s', Nxt s w s' (showE E k b) w') _ _ _ rfl rfl rfl rfl h2 hk hx2 rfl (HS.out.mono ?_) ?_
    · rintro e w' ⟨rfl, L', t', a1, a2, a3, d⟩
      have hh := h2.drew.did d (HL.out L' t' a1 a2 a3)
      refine ⟨rfl, _, hh, rfl, rfl, .inl rfl, ?_⟩
      refine ((tch_below b2 _).drew).trans' d.tch (fun i _ q => ?_)
      rw [q]; simp [Sx.bl]
    intro a' w3 hw3 ha
    subst ha
    have HW3 := hidMk hw3
    clear HS HL hw3
    simp only [Act.put, List.setIfInBounds_toArray, List.set_cons_zero, List.set_cons_succ]
    go_wp2
    go_ret
    exact ⟨by unfold showC; rw [HQ.out]; rfl, HW3.out⟩
set_option maxRecDepth 100000 in
set_option maxHeartbeats 2000000 in
theorem follow_any {i : Nat} {N : List (IdK × Nat)} (hR : SqAt w s.sb 1 s.g s.cap s.L) (hc : w.cell? ⟨s.sb, 0, none⟩ = some (.map (some s.mb))) (hm : M.MapAt w s.mb IdK.v IdK.ok (entM N)) : Calls Try.prog 38 #[.pointer (some ⟨s.sb, 0, none⟩), .int .i64 (i : Int)] w fun e w' => e = .returned (.tuple #[]) ∧ M.MapAt w' s.mb IdK.v IdK.ok (entM (if i < s.L.length then M.put N (gt s.L i).kp.id i else N)) ∧ Tch (fun j => j = s.mb) w w' := by
  by_cases hi : i < s.L.length
  · rw [if_pos hi]
    obtain ⟨o, e1, m1⟩ := M.run_put (P := Try.prog) idKey Try.underlying84 (show M.MapAt w.drew s.mb IdK.v IdK.ok (entM N) from hm.below rfl) (gt s.L i).kp.id (hR.ok.gt hi).id (Value.int .i64 (i : Int))
    rw [put_entM] at m1
    have HM := hidMk m1
    have tc : Tch (fun j => j = s.mb) w (M.setM w.drew s.mb o) := ((Tch.refl (fun j => j = s.mb) w).drew).setM (.inr rfl) o
    have HT := hidMk tc
    clear m1 tc
    go_enter Try.func38, Try.ntmps38
    go_upto_region 0 with fail
    refine fol0 (r := true) _ _ _ rfl rfl rfl hR (decide_eq_true (by omega)) ?_
    intro a' w1 hw ha
    subst ha
    obtain rfl : w1 = w := hw
    simp only [Act.put, List.setIfInBounds_toArray, List.set_cons_zero, List.set_cons_succ]
    go_upto_region 1 with fail
    refine fol1 _ _ _ rfl rfl rfl hR hc hi (element_any hR.drew hi) e1 ?_
    intro a' w2 hw ha
    subst ha
    obtain rfl : w2 = _ := hw
    clear e1 hR hc hm
    generalize M.setM w1.drew s.mb o = w2 at *
    go_end0
    exact ⟨rfl, HM.out, HT.out⟩
  · rw [if_neg hi]
    have HM := hidMk hm
    go_enter Try.func38, Try.ntmps38
    go_upto_region 0 with fail
    refine fol0 (r := false) _ _ _ rfl rfl rfl hR (decide_eq_false (by omega)) ?_
    intro a' w1 hw ha
    subst ha
    obtain rfl : w1 = w := hw
    simp only [Act.put, List.setIfInBounds_toArray, List.set_cons_zero, List.set_cons_succ]
    clear hR hc hm
    go_wp2
    go_end0
    exact ⟨rfl, HM.out, Tch.refl _ _⟩
end
end Go.Proofs.Ytlejbdepoemcjaa
