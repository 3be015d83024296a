import Derived.Test.YtlejbdepoemcjaaXj
namespace Go.Proofs.Ytlejbdepoemcjaa
open Go.RowKit Sq
set_option linter.unusedVariables false
set_option linter.unusedSimpArgs false

/-- The spot above one, as memory has it. -/
def upW (w : World) (g a : Nat) : Nat := match w.cell? ⟨g, 73 * a + 68, none⟩ with | some (.int _ n) => n.toNat | _ => 0
theorem upW_eq {w : World} {rb ro g cap : Nat} {L : List Sp} (h : SqAt w rb ro g cap L) : ∀ a, a < L.length → upW w g a = (gt L a).up := fun a ha => by
  have := R_cell h ha 1 _ rfl
  unfold upW
  rw [show 73 * a + 68 = 73 * a + (67 + 1) by omega, this]
  simp
/-- What is there while 'mend' goes up: nothing is left to be done, or a spot whose sides are right. -/
def MInv (L : List Sp) (a : Nat) (I : List Nat) : Prop := (a = 0 ∧ ∃ t, Zip L [] t ∧ Cnt L t ∧ t.ids = I) ∨ ∃ c i l r, a = i ∧ Mid L c (.nd i l r) ∧ (plug c (.nd i l r)).ids = I
theorem MInv.of_mid {L : List Sp} {c : Ctx} {t : T} (m : Mid L c t) : MInv L t.ix (plug c t).ids := by
  obtain ⟨z, hcc, i, l, r, rfl, hl, hr⟩ := m
  exact .inr ⟨c, i, l, r, rfl, ⟨z, hcc, i, l, r, rfl, hl, hr⟩, rfl⟩
theorem MInv.of_up {L : List Sp} {c : Ctx} {t : T} (u : Up L c t) : MInv L (upOf c) (plug c t).ids := by
  rcases u.next with ⟨rfl, e⟩ | ⟨i, s, o, c', rfl, e, _, m⟩
  · exact .inl ⟨e, t, u.1, u.2.2, rfl⟩
  · have := MInv.of_mid m
    rw [mk_ix] at this
    exact this
theorem dep_mid {L : List Sp} {c : Ctx} {i : Nat} {l r : T} (f : Nat → Nat) (hf : ∀ a, a < L.length → f a = (gt L a).up) (z : Zip L c (.nd i l r)) : dep f L.length i = c.length + 1 := by
  have hcl := ctx_len z.repc (List.nodup_append.1 z.nd).2.1
  obtain ⟨h1, h2, h3, _⟩ := z.rep
  obtain ⟨n, hn⟩ : ∃ n, L.length = n + 1 := ⟨L.length - 1, by omega⟩
  rw [hn, dep, if_neg h1, hf i h2, h3, dep_ctx f hf c _ n z.repc (by omega)]
section
variable {w : World} {rb ro g cap i : Nat} {L : List Sp}
set_option maxRecDepth 100000 in
set_option maxHeartbeats 4000000 in
theorem mend_any {I : List Nat} (h : SqAt w rb ro g cap L) (m : MInv L i I) :
    Calls Try.prog 78 #[.pointer (some ⟨rb, ro, none⟩), .int .i64 (i : Int)] w fun e w' => e = .returned (.tuple #[]) ∧ ∃ L' t', Zip L' [] t' ∧ Cnt L' t' ∧ t'.ids = I ∧ Kept L L' ∧ Did w rb ro g cap L' w' := by
  obtain ⟨N, hN⟩ : ∃ N, L.length = N := ⟨_, rfl⟩
  have hNl : N ≤ 1400000000000 := by rw [← hN]; exact h.len
  have HN := hidMk hN
  clear hN
  go_enter Try.func78, Try.ntmps78
  go_wp2
  go_loopw [1] (fun v1 wr => ∃ (a : Nat) (L' : List Sp), v1 = .int .i64 (a : Int) ∧ MInv L' a I ∧ Kept L L' ∧ Did w rb ro g cap L' wr) (fun v1 wr => dep (upW wr g) N (match v1 with | .int _ i => i.toNat | _ => 0))
  case atStart => exact ⟨i, L, rfl, m, Kept.refl L, Did.refl h⟩
  case round =>
    clear m
    obtain ⟨a, L1, rfl, m, k, d⟩ := hrel
    rcases m with ⟨rfl, t, zt, ct, it⟩ | ⟨c, j, l, r, rfl, md, ip⟩
    · have HP := hidMk (show ∃ L' t', Zip L' [] t' ∧ Cnt L' t' ∧ t'.ids = I ∧ Kept L L' ∧ Did w rb ro g cap L' wr from ⟨L1, t, zt, ct, it, k, d⟩)
      clear it zt ct k d
      go_wp2
      go_end0
      exact ⟨rfl, HP.out⟩
    · obtain ⟨t', e2, eup, h0, up2, k2, ids2⟩ := md.step
      obtain ⟨z, hcc, _, _, _, eT, hl, hr⟩ := md
      cases eT
      replace e2 : (even (tally L1 a) a).2 = t'.ix := e2
      replace eup : (gt (even (tally L1 a) a).1 t'.ix).up = upOf c := eup
      replace k2 : Kept L1 (even (tally L1 a) a).1 := k2
      replace up2 : Up (even (tally L1 a) a).1 c t' := up2
      have ha0 : a ≠ 0 := z.rep.1
      have lL1 : L1.length = N := k.len.trans HN.out
      have HD := hidMk (show dep (upW wr g) N a = c.length + 1 by rw [← lL1]; exact dep_mid _ (upW_eq d.at') z)
      have HT := hidMk (tally_nd d.at' z hl hr)
      have HE := hidMk (fun (W : World) (dW : Did wr rb ro g cap (tally L1 a) W) => even_any dW.at'.drew (z.tally ha0) (tally_cnt (s := false) z hl hr))
      have HK := hidMk (k.trans k2)
      have HI := hidMk (show (plug c t').ids = I by rw [← ip, plug_ids, plug_ids, ids2])
      have HU := hidMk up2
      have l2 : (even (tally L1 a) a).1.length = N := k2.len.trans lL1
      obtain ⟨L2, hL2⟩ : ∃ L2, (even (tally L1 a) a).1 = L2 := ⟨_, rfl⟩
      have hj : t'.ix < L2.length := by rw [← hL2]; exact ix_lt up2.1.rep up2.1.repc.pos
      rw [hL2] at HE HK HU l2 eup
      rw [e2] at HE
      have lT : (tally L1 a).length = N := by rw [tally_len]; exact lL1
      have E2 := hidMk eup
      have ha' : ¬ (a : Int) = 0 := by omega
      clear ip ids2 up2 k2 k e2 hcc hl hr hL2 eup
      go_upto_region 2 with (first
        | (go_at_call 90; refine HT.out.mono ?_; rintro e w1 ⟨rfl, d1⟩; clear HT)
        | fail)
      refine mend2 (g := g) (cap := cap) (N := N) (j := t'.ix) (k := upOf c) (fun w' => Did w rb ro g cap L2 w') _ _ _ rfl rfl rfl ?_ ?_ ?_ ?_
      · have := R_sl d1.at'.drew
        rw [lT] at this
        exact this
      · intro W
        have := R_ix (g := g) (cap := cap) hj (by rw [l2]; exact hNl) W
        rwa [l2] at this
      · refine (HE.out _ d1).mono ?_
        rintro e w2 ⟨rfl, d2⟩
        refine ⟨rfl, ?_, ?_, (d.trans d1).trans (Did.from (Qt.drew _) d2)⟩
        · have := R_sl d2.at'
          rw [l2] at this
          exact this
        · have := R_up d2.at' hj
          rwa [E2.out] at this
      intro a' w2 d2 ha
      subst ha
      simp only [Act.put, List.setIfInBounds_toArray, List.set_cons_zero, List.set_cons_succ]
      clear ha' HE l2 lT lL1 hj d1
      go_wp2
      refine ⟨⟨upOf c, L2, rfl, ?_, HK.out, d2⟩, ?_⟩
      · rw [← HI.out]
        exact MInv.of_up HU.out
      · show dep (upW w2 g) N (upOf c : Int).toNat < dep (upW wr g) N (a : Int).toNat
        have u := HU.out
        have hl2 : L2.length = N := HK.out.len.trans HN.out
        have hcl := ctx_len u.1.repc (List.nodup_append.1 u.1.nd).2.1
        rw [Int.toNat_natCast, Int.toNat_natCast, HD.out, dep_ctx _ (upW_eq d2.at') c _ N u.1.repc (by omega)]
        omega
end
end Go.Proofs.Ytlejbdepoemcjaa
