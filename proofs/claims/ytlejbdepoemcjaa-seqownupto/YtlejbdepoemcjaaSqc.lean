import Derived.Test.YtlejbdepoemcjaaSqb
namespace Go.Proofs.Ytlejbdepoemcjaa
open Go.RowKit Sq
set_option linter.unusedVariables false
set_option linter.unusedSimpArgs false

section
variable {w : World} {rb ro g cap i : Nat} {L : List Sp}
theorem Sp.get_id {s : Sp} {j : Nat} {v : Value} (h : (s.kp.id.c)[j]? = some v) : (Sp.c s)[j]? = some v := by
  have hl := (List.getElem?_eq_some_iff.1 h).1
  rw [Sp.c, List.getElem?_append_left (by simp [KpV.c]; omega), KpV.c, List.getElem?_append_left hl]
  exact h
theorem Sp.get_bh {s : Sp} (ok : KpV.ok s.kp) {j : Nat} {v : Value} (h : (s.kp.bh.c)[j]? = some v) : (Sp.c s)[33 + j]? = some v := by
  have hl := (List.getElem?_eq_some_iff.1 h).1
  have l1 := IdK.len ok.id
  rw [Sp.c, List.getElem?_append_left (by simp [KpV.c, l1]; omega), KpV.c, List.getElem?_append_right (by omega), l1, show 33 + j - 33 = j by omega, List.getElem?_append_left hl]
  exact h
theorem Sp.get_fol {s : Sp} (ok : KpV.ok s.kp) : (Sp.c s)[66]? = some (.int .i64 s.kp.fol) := by
  have l1 := IdK.len ok.id
  have l2 := IdK.len ok.bh
  rw [Sp.c, List.getElem?_append_left (by simp [KpV.c, l1, l2]), KpV.c, List.getElem?_append_right (by omega), l1, List.getElem?_append_right (by omega), l2]
  rfl
theorem R_id (h : SqAt w rb ro g cap L) (hi : i < L.length) : (Instr.loadAt 32 (.pointer (some ⟨g, 73 * i + 0 + 0, none⟩))).run Try.prog w = .ok (gt L i).kp.id.v w :=
  run_loadAt_mid (P := Try.prog) w g (73 * i) 32 (gt L i).kp.id.c _ (fun j v hv => h.range hi j v (Sp.get_id hv)) Try.underlying32 rfl (by rw [IdK.len (h.ok.gt hi).id]; exact szId)
theorem R_bh (h : SqAt w rb ro g cap L) (hi : i < L.length) : (Instr.loadAt 32 (.pointer (some ⟨g, 73 * i + 0 + 33, none⟩))).run Try.prog w = .ok (gt L i).kp.bh.v w :=
  run_loadAt_mid (P := Try.prog) w g (73 * i + 33) 32 (gt L i).kp.bh.c _ (fun j v hv => by rw [Nat.add_assoc]; exact h.range hi (33 + j) v (Sp.get_bh (h.ok.gt hi) hv)) Try.underlying32 rfl (by rw [IdK.len (h.ok.gt hi).bh]; exact szId)
theorem R_fol (h : SqAt w rb ro g cap L) (hi : i < L.length) : (Instr.loadAt 3 (.pointer (some ⟨g, 73 * i + 0 + 66, none⟩))).run Try.prog w = .ok (.int .i64 (gt L i).kp.fol) w := by
  have := h.range hi 66 _ (Sp.get_fol (h.ok.gt hi))
  rw [Nat.add_zero]
  go_simp
def setFol (L : List Sp) (i : Nat) (v : Int) : List Sp := md L i (fun s => { s with kp := { s.kp with fol := v } })
theorem st_fol (h : SqAt w rb ro g cap L) (hi : i < L.length) (v : Int) : ∃ w', (Instr.storeAt 3 (.pointer (some ⟨g, 73 * i + 0 + 66, none⟩)) (.int .i64 v)).run Try.prog w = .ok () w' ∧ Did w rb ro g cap (setFol L i v) w' := by
  have ok := h.ok.gt hi
  have l1 := IdK.len ok.id
  have l2 := IdK.len ok.bh
  obtain ⟨w', e, a, t, z⟩ := h.seg (k := 66) (n := 1) (t := 3) (v := .int .i64 v) hi (fun s => { s with kp := { s.kp with fol := v } }) [.int .i64 v] rfl (by
    have e1 : (Sp.c (gt L i)).take 66 = (gt L i).kp.id.c ++ (gt L i).kp.bh.c := by
      rw [Sp.c, KpV.c, ← List.append_assoc, List.append_assoc, List.take_append_of_le_length (by simp [l1, l2]), List.take_of_length_le (by simp [l1, l2])]
    have e2 : (Sp.c (gt L i)).drop (66 + 1) = Sp.t (gt L i) := by
      rw [Sp.c, List.drop_append, KpV.len ok, List.drop_of_length_le (by rw [KpV.len ok]; omega)]
      simp
    rw [e1, e2]
    simp [Sp.c, KpV.c, Sp.t]) (by omega) ⟨ok.id, ok.bh⟩ (by simp [Value.oneCell']) (by kernel_rfl) rfl
  exact ⟨w', e, a, t, z⟩
end
theorem setFol_len (L : List Sp) (i : Nat) (v : Int) : (setFol L i v).length = L.length := md_len _ _ _
theorem setFol_gt (L : List Sp) (i : Nat) (v : Int) (j : Nat) : (gt (setFol L i v) j).kp.id = (gt L j).kp.id ∧ (gt (setFol L i v) j).kp.bh = (gt L j).kp.bh ∧ Sq.Alike L (setFol L i v) j ∧ (∀ w, ct (gt (setFol L i v) j) w = ct (gt L j) w) ∧ (gt (setFol L i v) j).sh = (gt L j).sh ∧ (gt (setFol L i v) j).kp.fol = if i = j ∧ i < L.length then v else (gt L j).kp.fol := by
  unfold setFol
  by_cases e : i = j ∧ i < L.length
  · rw [if_pos e]
    have : gt (md L i (fun s => { s with kp := { s.kp with fol := v } })) j = { gt L j with kp := { (gt L j).kp with fol := v } } := by rw [gt_md, if_pos e]
    rw [this]
    exact ⟨rfl, rfl, ⟨by rw [this], by rw [this], by rw [this]⟩, fun w => by cases w <;> rfl, rfl, rfl⟩
  · rw [if_neg e]
    have : gt (md L i (fun s => { s with kp := { s.kp with fol := v } })) j = gt L j := by rw [gt_md, if_neg e]
    rw [this]
    exact ⟨rfl, rfl, ⟨by rw [this], by rw [this], by rw [this]⟩, fun w => rfl, rfl, rfl⟩
theorem Good.setFol {L : List Sp} {t : T} (h : Good L t) (i : Nat) (v : Int) : Good (setFol L i v) t :=
  ⟨⟨h.zip.rep.same (md_len _ _ _) (fun j _ => (setFol_gt L i v j).2.2.1), h.zip.repc.same (md_len _ _ _) (fun j _ => (setFol_gt L i v j).2.2.1) ⟨(setFol_gt L i v 0).2.2.1.l, (setFol_gt L i v 0).2.2.1.r⟩, h.zip.nd, fun w => by rw [(setFol_gt L i v 0).2.2.2.1]; exact h.zip.z w⟩,
    h.cnt.same (fun j _ => ⟨(setFol_gt L i v j).2.2.2.2.1, (setFol_gt L i v j).2.2.2.1⟩), fun j h0 hj => h.all j h0 (by rw [setFol_len] at hj; exact hj)⟩
theorem elts_setFol (L : List Sp) (t : T) (i : Nat) (v : Int) : elts (setFol L i v) t = elts L t := by
  unfold elts
  refine List.map_congr_left fun j _ => ?_
  have := setFol_gt L i v j
  unfold eltAt
  rw [this.1, this.2.1, this.2.2.2.2.1]
theorem fg_92_0 (b o : Nat) (W : World) : (Instr.fieldAt 92 (.pointer (some ⟨b, o, none⟩)) 0).run Try.prog W = .ok (.pointer (some ⟨b, o + 0, none⟩)) W := by go_simp
theorem fg_92_1 (b o : Nat) (W : World) : (Instr.fieldAt 92 (.pointer (some ⟨b, o, none⟩)) 1).run Try.prog W = .ok (.pointer (some ⟨b, o + 1, none⟩)) W := by go_simp
theorem fg_90_0 (b o : Nat) (W : World) : (Instr.fieldAt 90 (.pointer (some ⟨b, o, none⟩)) 0).run Try.prog W = .ok (.pointer (some ⟨b, o + 0, none⟩)) W := by go_simp
theorem fg_90_1 (b o : Nat) (W : World) : (Instr.fieldAt 90 (.pointer (some ⟨b, o, none⟩)) 1).run Try.prog W = .ok (.pointer (some ⟨b, o + 33, none⟩)) W := by go_simp
theorem fg_90_2 (b o : Nat) (W : World) : (Instr.fieldAt 90 (.pointer (some ⟨b, o, none⟩)) 2).run Try.prog W = .ok (.pointer (some ⟨b, o + 66, none⟩)) W := by go_simp
theorem fg_32_1 (b o : Nat) (W : World) : (Instr.fieldAt 32 (.pointer (some ⟨b, o, none⟩)) 1).run Try.prog W = .ok (.pointer (some ⟨b, o + 32, none⟩)) W := by go_simp
theorem ld_map {w : World} {sb mb : Nat} (h : w.cell? ⟨sb, 0, none⟩ = some (.map (some mb))) : (Instr.loadAt 84 (.pointer (some ⟨sb, 0, none⟩))).run Try.prog w = .ok (.map (some mb)) w := by go_simp
theorem ld_n {w : World} {b : Nat} {k : IdK} (hk : k.ok) (h : IdAt w b k) : (Instr.loadAt 3 (.pointer (some ⟨b, 32, none⟩))).run Try.prog w = .ok (.int .i64 k.n) w := by
  have : w.cell? ⟨b, 32, none⟩ = some (.int .i64 k.n) := by
    have := cells_range h 32 (.int .i64 k.n) (by
      rw [IdK.c, List.getElem?_append_right (by rw [hcs_len, hk.l]; omega), hcs_len, hk.l]
      rfl)
    rwa [Nat.zero_add] at this
  go_simp
theorem build_id (w : World) : (Instr.build 32 #[]).run Try.prog w = .ok zId.v w := by kernel_rfl
theorem guard_id (x y : Operand) (a b : IdK) (w : World) (op : BinOp) : (eqGuard op 32 x y a.v b.v).run Try.prog w = .ok () w := by
  have h : Try.prog.eqGuardType Try.prog.depth 32 = false := by kernel_rfl
  have hp : ∀ w : World, (program).run Try.prog w = .ok Try.prog w := fun w => rfl
  unfold eqGuard IdK.v
  cases op <;> simp [h, hp, Result.andThen]
theorem eql_id (a b : IdK) (ha : a.ok) (hb : b.ok) (w : World) : (binOp .eql 32 a.v b.v).run Try.prog w = .ok (.bool (decide (a = b))) w := by
  have h : (Op.equalIn Op.maxDepth 32 a.v b.v).run Try.prog w = .ok (decide (a = b)) w := eqId 9997 a b ha hb w
  unfold IdK.v at h ⊢
  simp [binOp, Op.equal, h, Result.andThen]
theorem neq_id (a b : IdK) (ha : a.ok) (hb : b.ok) (w : World) : (binOp .neq 32 a.v b.v).run Try.prog w = .ok (.bool (!decide (a = b))) w := by
  have h : (Op.equalIn Op.maxDepth 32 a.v b.v).run Try.prog w = .ok (decide (a = b)) w := eqId 9997 a b ha hb w
  unfold IdK.v at h ⊢
  simp [binOp, Op.equal, h, Result.andThen]
section
variable {w : World} {a : Act} {o : Oper} {x y : Operand} {p q : IdK} {r : Bool}
theorem ex_neqI (ho : o.op = .binOp .neq 32 x y 32) (hx : a.eval x = p.v) (hy : a.eval y = q.v) (hp : p.ok) (hq : q.ok) (h : (!decide (p = q)) = r) : (execOp a.eval o).run Try.prog w = .ok (.value (.bool r)) w :=
  exec_binOp ho hx hy (guard_id _ _ _ _ _ _) (by rw [neq_id p q hp hq, h])
theorem ex_eqlI (ho : o.op = .binOp .eql 32 x y 32) (hx : a.eval x = p.v) (hy : a.eval y = q.v) (hp : p.ok) (hq : q.ok) (h : decide (p = q) = r) : (execOp a.eval o).run Try.prog w = .ok (.value (.bool r)) w :=
  exec_binOp ho hx hy (guard_id _ _ _ _ _ _) (by rw [eql_id p q hp hq, h])
set_option maxRecDepth 100000 in
theorem build_el0 (w : World) (a0 a1 a2 a3 a4 a5 a6 a7 a8 a9 a10 a11 a12 a13 a14 a15 a16 a17 a18 a19 a20 a21 a22 a23 a24 a25 a26 a27 a28 a29 a30 a31 a32 b0 b1 b2 b3 b4 b5 b6 b7 b8 b9 b10 b11 b12 b13 b14 b15 b16 b17 b18 b19 b20 b21 b22 b23 b24 b25 b26 b27 b28 b29 b30 b31 b32 : Value) : (Instr.build 90 #[(0, .agg [a0, a1, a2, a3, a4, a5, a6, a7, a8, a9, a10, a11, a12, a13, a14, a15, a16, a17, a18, a19, a20, a21, a22, a23, a24, a25, a26, a27, a28, a29, a30, a31, a32].toArray), (1, .agg [b0, b1, b2, b3, b4, b5, b6, b7, b8, b9, b10, b11, b12, b13, b14, b15, b16, b17, b18, b19, b20, b21, b22, b23, b24, b25, b26, b27, b28, b29, b30, b31, b32].toArray)]).run Try.prog w = .ok (.agg ([a0, a1, a2, a3, a4, a5, a6, a7, a8, a9, a10, a11, a12, a13, a14, a15, a16, a17, a18, a19, a20, a21, a22, a23, a24, a25, a26, a27, a28, a29, a30, a31, a32] ++ ([b0, b1, b2, b3, b4, b5, b6, b7, b8, b9, b10, b11, b12, b13, b14, b15, b16, b17, b18, b19, b20, b21, b22, b23, b24, b25, b26, b27, b28, b29, b30, b31, b32] ++ [Value.int .i64 0])).toArray) w := by kernel_rfl
set_option maxRecDepth 100000 in
/-- An element that is built of two Ids. -/
theorem build_el (w : World) (hp : p.ok) (hq : q.ok) : (Instr.build 90 #[(0, p.v), (1, q.v)]).run Try.prog w = .ok (KpV.v ⟨p, q, 0⟩) w := by
  have h := IdK.len hp
  have h2 := IdK.len hq
  unfold KpV.v KpV.c IdK.v
  simp only
  generalize p.c = l at *
  generalize q.c = m at *
  match l, h, m, h2 with
  | a0 :: a1 :: a2 :: a3 :: a4 :: a5 :: a6 :: a7 :: a8 :: a9 :: a10 :: a11 :: a12 :: a13 :: a14 :: a15 :: a16 :: a17 :: a18 :: a19 :: a20 :: a21 :: a22 :: a23 :: a24 :: a25 :: a26 :: a27 :: a28 :: a29 :: a30 :: a31 :: a32 :: [], _, b0 :: b1 :: b2 :: b3 :: b4 :: b5 :: b6 :: b7 :: b8 :: b9 :: b10 :: b11 :: b12 :: b13 :: b14 :: b15 :: b16 :: b17 :: b18 :: b19 :: b20 :: b21 :: b22 :: b23 :: b24 :: b25 :: b26 :: b27 :: b28 :: b29 :: b30 :: b31 :: b32 :: [], _ => exact build_el0 w a0 a1 a2 a3 a4 a5 a6 a7 a8 a9 a10 a11 a12 a13 a14 a15 a16 a17 a18 a19 a20 a21 a22 a23 a24 a25 a26 a27 a28 a29 a30 a31 a32 b0 b1 b2 b3 b4 b5 b6 b7 b8 b9 b10 b11 b12 b13 b14 b15 b16 b17 b18 b19 b20 b21 b22 b23 b24 b25 b26 b27 b28 b29 b30 b31 b32
theorem ex_el (ho : o.op = .build 90 #[(0, x), (1, y)]) (hx : a.eval x = p.v) (hy : a.eval y = q.v) (hp : p.ok) (hq : q.ok) : (execOp a.eval o).run Try.prog w = .ok (.value (KpV.v ⟨p, q, 0⟩)) w :=
  exec_build ho (by simp [hx, hy]) (build_el w hp hq)
end
end Go.Proofs.Ytlejbdepoemcjaa
