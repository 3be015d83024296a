import Derived.Test.YtlejbdepoemcjaaXl
namespace Go.Proofs.Ytlejbdepoemcjaa
open Go.RowKit Sq
set_option linter.unusedVariables false
set_option linter.unusedSimpArgs false

section
variable {w : World} {rb ro g cap i : Nat} {L : List Sp}
/-- The place right behind a spot. -/
theorem Good.right {t : T} (hg : Good L t) {b : Nat} (hb : b = 0 ∨ b ∈ t.ids) : ∃ (c : Ctx) (R : T), t = plug c R ∧ Zip L c R ∧ CntC L c ∧ Cnt L R ∧ upOf c = b ∧ sd c = true ∧ (gt L b).r = R.ix ∧ (b = 0 ∧ pre c = [] ∨ ∃ A, pre c = A ++ [b]) := by
  rcases hb with rfl | hb
  · exact ⟨[], t, rfl, hg.zip, trivial, hg.cnt, rfl, rfl, hg.root, .inl ⟨rfl, rfl⟩⟩
  · obtain ⟨c, l, r, et, z, hcc, hc⟩ := hg.focus hb
    refine ⟨(b, true, l) :: c, r, by rw [et]; rfl, Zip.into (s := true) z, ⟨hc.2.1, hcc⟩, hc.2.2, rfl, rfl, z.rep.2.2.2.2.1, .inr ⟨pre c ++ l.ids, ?_⟩⟩
    simp [pre]
/-- A number put right behind another one. -/
def InsB (I I' : List Nat) (b n : Nat) : Prop := ∃ A B, I = A ++ B ∧ I' = A ++ n :: B ∧ (b = 0 ∧ A = [] ∨ ∃ A', A = A' ++ [b])
/-- A row behind a call that may have moved its spots elsewhere. -/
structure Moved (w : World) (rb ro g : Nat) (g' cap' : Nat) (L' : List Sp) (w' : World) : Prop where
  at' : SqAt w' rb ro g' cap' L'
  tch : Tch (fun j => j = g ∨ j = rb) w w'
  own : g' = g ∨ w.heap.size ≤ g'
  oth : ∀ q, q ≠ ro → w'.cell? ⟨rb, q, none⟩ = w.cell? ⟨rb, q, none⟩
theorem Moved.did {w w1 w2 : World} {rb ro g g' cap' : Nat} {L1 L2 : List Sp} (h : Moved w rb ro g g' cap' L1 w1) (d : Did w1 rb ro g' cap' L2 w2) : Moved w rb ro g g' cap' L2 w2 := by
  refine ⟨d.at', h.tch.trans' d.tch (fun j hj q => ?_), h.own, fun q hq => ?_⟩
  · rcases h.own with e | e
    · exact .inl (q.trans e)
    · omega
  · exact (World.cell?_of_block (a := ⟨rb, q, none⟩) (d.tch.block rb h.at'.lt.1 h.at'.ne)).trans (h.oth q hq)
theorem box_ld {w w' : World} {kb : Nat} {k : KpV} {t : TypeId} (hk : KpV.ok k) (hb : w.heap[kb]? = some (.cells (KpV.c k).toArray t (0, 0))) (e : w'.heap[kb]? = w.heap[kb]?) : KS kb k w' :=
  run_loadAt_mid (P := Try.prog) w' kb 0 90 (KpV.c k) _ (cells_range (e.trans hb)) Try.underlying90 rfl (by rw [KpV.len hk]; exact szK)
set_option maxRecDepth 100000 in
set_option maxHeartbeats 2000000 in
theorem rput_any (h : SqAt w rb ro g cap L) {t : T} (hg : Good L t) {b : Nat} (hb : b = 0 ∨ b ∈ t.ids) {k : KpV} (hk : KpV.ok k) (hn : L.length + 1 ≤ 1400000000000) :
    Calls Try.prog 35 #[.pointer (some ⟨rb, ro, none⟩), .int .i64 (b : Int), KpV.v k] w fun e w' => e = .returned (.int .i64 (L.length : Int)) ∧ ∃ g' cap' L' t', Good L' t' ∧ InsB t.ids t'.ids b L.length ∧ Kept (L ++ [⟨k, true, 0, 0, 0, 0, 0⟩]) L' ∧ Moved w rb ro g g' cap' L' w' := by
  obtain ⟨c, R, et, zR, cc, cR, ub, sb, eR, hpre⟩ := hg.right hb
  have hbl : b < L.length := by
    rcases hb with rfl | hb
    · exact hg.pos
    · exact (hg.lt hb).2
  obtain ⟨n, hnn⟩ : ∃ n, L.length = n := ⟨_, rfl⟩
  have HN := hidMk hnn
  have zl := lft_zip zR
  have cl := lft_cnt cc cR
  obtain ⟨s, hs⟩ : ∃ s : Sp, s = ⟨k, true, 0, 0, 0, 0, 0⟩ := ⟨_, rfl⟩
  have m := put0_mid zl cl k
  have HFin := hidMk (fun (L' : List Sp) (t' : T) (zt : Zip L' [] t') (ct : Cnt L' t') (it : t'.ids = (plug (lft R c) (.nd L.length .nil .nil)).ids) (kp : Kept (put0 L (upOf (lft R c)) (sd (lft R c)) k) L') => show Good L' t' ∧ InsB t.ids t'.ids b L.length ∧ Kept (L ++ [⟨k, true, 0, 0, 0, 0, 0⟩]) L' from by
    have e1 : t'.ids = pre c ++ L.length :: (R.ids ++ post c) := by
      rw [it, plug_ids, lft_pre, lft_post]; simp [T.ids]
    have e2 : t.ids = pre c ++ (R.ids ++ post c) := by rw [et, plug_ids]; simp
    have kl : L'.length = L.length + 1 := by
      have := (put0_kept L (upOf (lft R c)) (sd (lft R c)) k).len
      rw [kp.len, this]; simp
    refine ⟨⟨zt, ct, fun i h0 hi => ?_⟩, ⟨pre c, R.ids ++ post c, e2, e1, hpre⟩, (put0_kept L _ _ k).trans kp⟩
    rw [e1]
    by_cases hil : i < L.length
    · have := hg.all i h0 hil
      rw [e2] at this
      rcases List.mem_append.1 this with q | q
      · exact List.mem_append.2 (.inl q)
      · exact List.mem_append.2 (.inr (List.mem_cons_of_mem _ q))
    · have : i = L.length := by omega
      rw [this]; simp)
  have bx : Below w.heap.size w (w.alloc (.cells (KpV.c k).toArray 90)) := (Below.refl _ _).alloc (Nat.le_refl _) _
  have hbx : (w.alloc (.cells (KpV.c k).toArray 90)).heap[w.heap.size]? = some (.cells (KpV.c k).toArray 90 (0, 0)) := heap_alloc_new _ _
  have zx : (w.alloc (.cells (KpV.c k).toArray 90)).heap.size = w.heap.size + 1 := by simp
  have HWX := hidMk (show (w.alloc (.cells (KpV.c k).toArray 90)).heap.size = w.heap.size + 1 by simp)
  unfold KpV.v
  go_enter Try.func35, Try.ntmps35
  go_upto_region 1 with fail
  generalize w.alloc (.cells (KpV.c k).toArray 90) = wx at *
  have hx : SqAt wx rb ro g cap L := h.keep (bx.block _ h.lt.1) (bx.block _ h.lt.2)
  refine put1 _ _ _ rfl rfl hx ?_
  intro a' w1 hw ha
  subst ha
  obtain rfl : w1 = wx := hw
  rw [hnn]
  simp only [Act.put, List.setIfInBounds_toArray, List.set_cons_zero, List.set_cons_succ]
  obtain ⟨lv, qv, y1, y2, y3, g', cap', EB, h1, b1, EA, t2, ES, h3, t3, hgg, hoth⟩ := app_spot hx.drew hk hn
  rw [show w1.drew.heap.size = w1.heap.size from rfl] at b1 hgg
  have hne1 : w.heap.size ≠ g := by have := h.lt.2; omega
  have hne2 : w.heap.size ≠ rb := by have := h.lt.1; omega
  have hlx : w.heap.size < w1.heap.size := by omega
  go_upto_region 2 with fail
  have mv : Moved w rb ro g g' cap' (L ++ [s]) y3 := by
    rw [hs]
    refine ⟨h3, ?_, ?_, fun q hq => (hoth q hq).trans (World.cell?_of_block (a := ⟨rb, q, none⟩) (bx.block rb h.lt.1))⟩
    · exact Tch.trans (Tch.of_below bx (fun j hj q => by omega)) (((Qt.drew w1).tch _).trans t3)
    · rcases hgg with q | q
      · exact .inl q
      · exact .inr (by omega)
  have lS : (L ++ [s]).length = n + 1 := by rw [List.length_append, hnn]; rfl
  have e3 : dn (gt (L ++ [s]) b) true = R.ix := by rw [gt_app L s hbl]; exact eR
  have hnl : n < (L ++ [s]).length := by omega
  have zS := zR.app s
  have HM := hidMk (fun (W : World) (dW : Did y3 rb ro g' cap' (put0 L (upOf (lft R c)) (sd (lft R c)) k) W) => mend_any dW.at' (MInv.of_mid m))
  rw [show (T.nd L.length .nil .nil).ix = L.length from rfl, hnn] at HM
  have HP0 := hidMk (show put0 L (upOf (lft R c)) (sd (lft R c)) k = hang (L ++ [s]) (upOf (lft R c)) (sd (lft R c)) n by rw [hs, ← hnn]; rfl)
  rw [← hs] at HFin
  rw [hnn] at HFin
  clear hpre et cc cR zl cl m hn
  refine put2 (L := L) (g := g) (cap := cap) (k := k) _ _ _ rfl rfl rfl hk (box_ld hk hbx rfl) (R_sl hx.drew) EB (box_ld hk hbx (b1.block _ hlx)) (R_sl h1) EA (box_ld hk hbx (t2.block _ hlx hne1)) ES (box_ld hk hbx (t3.block _ hlx (fun q => q.elim hne1 hne2))) ?_ ?_ <;> (
    intro a' w2 hw ha
    subst ha
    obtain rfl : w2 = y3 := hw
    simp only [Act.put, List.setIfInBounds_toArray, List.set_cons_zero, List.set_cons_succ]
    go_upto_region 3 with fail
    refine put3 (i := b) _ _ _ rfl rfl rfl mv.at' (by omega) ?_
    rw [e3]
    intro a' w3 hw ha
    subst ha
    obtain rfl : w3 = w2 := hw
    simp only [Act.put, List.setIfInBounds_toArray, List.set_cons_zero, List.set_cons_succ]
    by_cases hR : R.ix = 0
    · rw [hR]
      obtain rfl : R = .nil := (rep_ix zR.rep).1 hR
      have HH := hidMk (hang_any (u := b) (p := n) (b := true) mv.at' (by omega) hnl)
      have HE := hidMk (show put0 L (upOf (lft .nil c)) (sd (lft .nil c)) k = hang (L ++ [s]) b true n by rw [HP0.out]; show hang (L ++ [s]) (upOf c) (sd c) n = _; rw [ub, sb])
      clear hR e3 eR EB EA ES
      go_wp2_with (first
        | (go_at_call 76; refine HH.out.mono ?_; rintro e w4 ⟨rfl, d4⟩; rw [← HE.out] at d4; clear HH)
        | (go_at_call 78; refine (HM.out _ d4).mono ?_; rintro e w5 ⟨rfl, L5, t5, z5, c5, i5, k5, d5⟩; clear HM)
        | fail)
      go_ret
      obtain ⟨f1, f2, f3⟩ := HFin.out L5 t5 z5 c5 i5 k5
      rw [HN.out]
      refine ⟨rfl, g', cap', L5, t5, f1, f2, ?_, mv.did (d4.trans d5)⟩
      rw [← hs]
      exact f3
    · have hRn : R ≠ .nil := fun e => hR (by rw [e]; rfl)
      have lsR : lsp R ≤ (L ++ [s]).length := by have := lsp_le R; have := ids_le zS; omega
      have HFs := hidMk (first_any mv.at' zS.rep hR lsR)
      have eU : upOf (lft R c) = fs R := fs_up R c hRn
      have eS : sd (lft R c) = false := lft_sd R c hRn
      have hfl : fs R < (L ++ [s]).length := by rw [← eU]; exact (lft_zip zS).repc.up_lt
      have HH := hidMk (fun (W : World) (q : Qt w3 W) => hang_any (u := fs R) (p := n) (b := false) (mv.at'.qt q) hfl hnl)
      have HE := hidMk (show put0 L (upOf (lft R c)) (sd (lft R c)) k = hang (L ++ [s]) (fs R) false n by rw [HP0.out, eU, eS])
      have hR' : ¬ (R.ix : Int) = 0 := by omega
      clear e3 eR EB EA ES eU eS
      go_upto_region 6 with fail
      refine put6 (i := R.ix) (j := fs R) (n := n) (fun w' => Did w3 rb ro g' cap' (hang (L ++ [s]) (fs R) false n) w') _ _ _ rfl rfl rfl rfl ?_ ?_
      · refine HFs.out.mono ?_
        rintro e wa ⟨rfl, qa⟩
        refine ⟨rfl, ?_⟩
        refine (HH.out _ qa).mono ?_
        rintro e wb ⟨rfl, db⟩
        exact ⟨rfl, Did.from qa db⟩
      intro a' w4 d4 ha
      subst ha
      rw [← HE.out] at d4
      simp only [Act.put, List.setIfInBounds_toArray, List.set_cons_zero, List.set_cons_succ]
      clear hR' hR
      go_wp2_with (first
        | (go_at_call 78; refine (HM.out _ d4).mono ?_; rintro e w5 ⟨rfl, L5, t5, z5, c5, i5, k5, d5⟩; clear HM)
        | fail)
      go_ret
      obtain ⟨f1, f2, f3⟩ := HFin.out L5 t5 z5 c5 i5 k5
      rw [HN.out]
      refine ⟨rfl, g', cap', L5, t5, f1, f2, ?_, mv.did (d4.trans d5)⟩
      rw [← hs]
      exact f3)
end
end Go.Proofs.Ytlejbdepoemcjaa
