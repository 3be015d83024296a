import Derived.Test.YtlejbdepoemcjaaXh0
namespace Go.Proofs.Ytlejbdepoemcjaa
open Go.RowKit Sq
set_option linter.unusedVariables false
set_option linter.unusedSimpArgs false

theorem ix_lt {L : List Sp} {p : Nat} {t : T} (h : Rep L p t) (h0 : 0 < L.length) : t.ix < L.length := by
  cases t with
  | nil => exact h0
  | nd i l r => exact h.2.1
theorem ids_le {L : List Sp} {c : Ctx} {t : T} (z : Zip L c t) : t.ids.length < L.length := by
  have nd := (List.nodup_append.1 z.nd).1
  have : (0 :: t.ids).Nodup := List.nodup_cons.2 ⟨fun h => (z.rep.mem 0 h).1 rfl, nd⟩
  have := this.length_le_of_subset (l₂ := List.range L.length) (fun i hi => by
    rcases List.mem_cons.1 hi with rfl | hi
    · exact List.mem_range.2 z.repc.pos
    · exact List.mem_range.2 (z.rep.mem i hi).2)
  simp at this
  omega
theorem cnt_le (L : List Sp) (w : Bool) (t : T) : cnt L w t ≤ t.ids.length := by
  unfold cnt
  exact List.countP_le_length
theorem Sq.Cnt.small {L : List Sp} {c : Ctx} {t : T} (h : Cnt L t) (z : Zip L c t) (w : Bool) : ct (gt L t.ix) w < L.length := by
  rw [h.at z.z w]
  have := cnt_le L w t
  have := ids_le z
  omega
section
variable {w : World} {rb ro g cap i : Nat} {L : List Sp}
theorem tally_nd {c : Ctx} {l r : T} (h : SqAt w rb ro g cap L) (z : Zip L c (.nd i l r)) (hl : Cnt L l) (hr : Cnt L r) : Calls Try.prog 90 #[.pointer (some ⟨rb, ro, none⟩), .int .i64 (i : Int)] w fun e w' => e = .returned (.tuple #[]) ∧ Did w rb ro g cap (tally L i) w' := by
  obtain ⟨h1, h2, h3, h4, h5, h6, h7⟩ := z.rep
  have zl := Zip.into (s := false) (o := r) z
  have zr := Zip.into (s := true) (o := l) z
  have hp := z.repc.pos
  have hlen := h.len
  refine tally_any h h2 (by rw [h4]; exact ix_lt h6 hp) (by rw [h5]; exact ix_lt h7 hp) (fun e => ?_) (fun d => ?_) (fun d => ?_)
  · rw [h5] at e
    have nd := (List.nodup_append.1 z.nd).1
    simp only [T.ids, List.nodup_append, List.nodup_cons] at nd
    exact nd.2.1.1 (e ▸ ix_mem (t := r) (by rw [e]; exact h1))
  · rw [h4]; have := hl.small zl d; omega
  · rw [h5]; have := hr.small zr d; omega
theorem tally_mk {c : Ctx} {s : Bool} {t o : T} (h : SqAt w rb ro g cap L) (z : Zip L c (mk i s t o)) (ht : Cnt L t) (ho : Cnt L o) : Calls Try.prog 90 #[.pointer (some ⟨rb, ro, none⟩), .int .i64 (i : Int)] w fun e w' => e = .returned (.tuple #[]) ∧ Did w rb ro g cap (tally L i) w' := by
  cases s
  · exact tally_nd h z ht ho
  · exact tally_nd h z ho ht
set_option maxRecDepth 100000 in
set_option maxHeartbeats 2000000 in
theorem lift_any {c : Ctx} {a b : Nat} {s : Bool} {P Q Z : T} (h : SqAt w rb ro g cap L) (z : Zip L c (mk a s (mk b s P Q) Z)) (hP : Cnt L P) (hQ : Cnt L Q) (hZ : Cnt L Z) :
    Calls Try.prog 100 #[.pointer (some ⟨rb, ro, none⟩), .int .i64 (b : Int)] w fun e w' => e = .returned (.tuple #[]) ∧ Did w rb ro g cap (lift L b) w' := by
  obtain ⟨a1, a2, a3, a4, a5, a6, a7⟩ := rep_mk.1 z.rep
  obtain ⟨b1, b2, b3, b4, b5, b6, b7⟩ := rep_mk.1 a6
  have zi := z.into
  have sb : sideOf L b = s := by have := zi.side (by rw [mk_ix]; exact b1); rwa [mk_ix] at this
  have sa : sideOf L a = sd c := by have := z.side (by rw [mk_ix]; exact a1); rwa [mk_ix] at this
  have hc : RepC L c a := by have := z.repc; rwa [mk_ix] at this
  have hu := hc.up_lt
  have nd := ((mk_perm a s (mk b s P Q) Z).append_right (cids c)).nodup_iff.1 z.nd
  simp only [List.cons_append, List.nodup_cons, List.mem_append, not_or, List.nodup_append, mk_mem] at nd
  have nab : a ≠ b := nd.1.1.1.1
  have nbC : b ∉ cids c := fun hh => nd.2.2.2 b (.inl (.inl rfl)) b hh rfl
  have ub : upOf c ≠ b := fun e => by
    rcases upOf_mem c with e0 | e0
    · omega
    · exact nbC (e ▸ e0)
  obtain ⟨z1, k1, c1, _⟩ := lift0_zip z
  have sm : ∀ {t : T}, Cnt L t → Cnt (lift0 L b) t := fun h => h.same (fun i _ => ⟨k1.sh i, fun w => c1 i w⟩)
  have zin : Zip (lift0 L b) ((b, !s, P) :: c) (mk a s Q Z) := by
    rw [mk_flip b] at z1; exact z1.into
  have c2 := tally_cnt zin (sm hQ) (sm hZ)
  have z2 := z1.tally a1
  have nd1 := (((mk_perm b s P _).append_right _).nodup_iff.1 z1.nd)
  simp only [List.cons_append, List.nodup_cons, List.mem_append, not_or, List.nodup_append, mk_mem] at nd1
  have cP2 := (sm hP).tally (a := a) (fun h => nd1.2.1.2.2 a h a (.inl rfl) rfl)
  have e1 : repl L a b = hang L (upOf c) (sd c) b := by unfold repl; rw [a3, sa]
  have eQ : dn (gt (repl L a b) b) (!s) = Q.ix := by rw [e1, hang_dn, if_neg (fun q => ub q.1)]; exact b5
  have qlt : Q.ix < L.length := ix_lt b7 hc.pos
  have l1 : (repl L a b).length = L.length := by rw [e1, hang_len]
  have EL := hidMk (show lift0 L b = hang (hang (repl L a b) a s Q.ix) b (!s) a from by
    unfold lift0
    simp only [b3, sb, eQ])
  have ELL := hidMk (show lift L b = tally (tally (lift0 L b) a) b from by unfold lift; rw [b3])
  clear nd nd1 e1 nbC
  go_enter Try.func100, Try.ntmps100
  go_upto_region 0 with fail
  refine lift0r (s := s) _ _ _ rfl rfl rfl h b2 h.len ?_ ?_
  · refine (side_any h.drew b2 (by rw [b3]; exact a2)).mono ?_
    rintro e w1 ⟨rfl, q1⟩
    exact ⟨by rw [sb], h.drew.qt q1, (Qt.drew w).trans q1⟩
  rw [b3]
  intro a' w1 hw ha
  subst ha
  simp only [Act.put, List.setIfInBounds_toArray, List.set_cons_zero, List.set_cons_succ]
  have d1 : Did w rb ro g cap L w1 := ⟨hw.1, hw.2.tch _, hw.2.size⟩
  have HR := hidMk (replace_any d1.at' a2 (by rw [a3]; exact hu) b2 (Ne.symm nab))
  clear hw
  go_upto_region 2 with (first
    | (go_at_call 79; refine HR.out.mono ?_; rintro e w2 ⟨rfl, d2⟩; clear HR)
    | fail)
  replace d2 := d1.trans d2
  refine lift2r (L := repl L a b) (s := s) (fun w' => Did w rb ro g cap (hang (repl L a b) a s Q.ix) w') _ _ _ rfl rfl rfl rfl rfl d2.at' (by rw [l1]; exact b2) ?_ ?_
  · rw [eQ]
    refine (hang_any d2.at' (by rw [l1]; exact a2) (by rw [l1]; exact qlt)).mono ?_
    rintro e w3 ⟨rfl, d3⟩
    exact ⟨rfl, d2.trans d3⟩
  intro a' w3 d3 ha
  subst ha
  simp only [Act.put, List.setIfInBounds_toArray, List.set_cons_zero, List.set_cons_succ]
  go_upto_region 3 with fail
  refine lift3r (s := s) (fun w' => Did w rb ro g cap (lift0 L b) w') _ _ _ rfl rfl rfl rfl rfl ?_ ?_
  · refine (hang_any d3.at' (by rw [hang_len, l1]; exact b2) (by rw [hang_len, l1]; exact a2)).mono ?_
    rintro e w4 ⟨rfl, d4⟩
    refine ⟨rfl, ?_⟩
    rw [EL.out]
    exact d3.trans d4
  intro a' w4 d4 ha
  subst ha
  simp only [Act.put, List.setIfInBounds_toArray, List.set_cons_zero, List.set_cons_succ]
  have HT1 := hidMk (tally_mk d4.at' zin (sm hQ) (sm hZ))
  have HT2 := hidMk (fun (w5 : World) (d5 : Did w4 rb ro g cap (tally (lift0 L b) a) w5) => tally_mk d5.at' z2 cP2 c2)
  clear d1 d2 d3 eQ qlt
  go_wp2_with (first
    | (go_at_call_of 90 (Value.int .i64 (a : Int)); refine HT1.out.mono ?_; rintro e w5 ⟨rfl, d5⟩; clear HT1)
    | (go_at_call_of 90 (Value.int .i64 (b : Int)); refine (HT2.out _ d5).mono ?_; rintro e w6 ⟨rfl, d6⟩; clear HT2)
    | fail)
  go_end0
  refine ⟨rfl, ?_⟩
  rw [ELL.out]
  exact (d4.trans d5).trans d6
end
end Go.Proofs.Ytlejbdepoemcjaa
