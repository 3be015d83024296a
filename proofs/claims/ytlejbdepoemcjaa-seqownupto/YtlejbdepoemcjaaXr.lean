import Derived.Test.YtlejbdepoemcjaaXq
namespace Go.Proofs.Ytlejbdepoemcjaa
open Go.RowKit Sq
set_option linter.unusedVariables false
set_option linter.unusedSimpArgs false

/-- All numbers of spots are those of spots. -/
def Fit (L : List Sp) : Prop := ∀ i, 0 < i → i < L.length → (gt L i).up < L.length ∧ ∀ b, dn (gt L i) b < L.length
theorem Rep.fit {L : List Sp} (h0 : 0 < L.length) : ∀ {t : T} {p : Nat}, Rep L p t → p < L.length → ∀ i ∈ t.ids, (gt L i).up < L.length ∧ ∀ b, dn (gt L i) b < L.length
  | .nil, _, _, _, i, hi => by simp [T.ids] at hi
  | .nd j l r, p, h, hp, i, hi => by
    obtain ⟨h1, h2, h3, h4, h5, h6, h7⟩ := h
    simp only [T.ids, List.mem_append, List.mem_cons] at hi
    rcases hi with hi | rfl | hi
    · exact Rep.fit h0 h6 h2 i hi
    · refine ⟨by rw [h3]; exact hp, fun b => ?_⟩
      cases b
      · show (gt L i).l < _; rw [h4]; exact ix_lt h6 h0
      · show (gt L i).r < _; rw [h5]; exact ix_lt h7 h0
    · exact Rep.fit h0 h7 h2 i hi
theorem Good.fit {L : List Sp} {t : T} (h : Good L t) : Fit L := fun i h0 hi => Rep.fit h.pos h.zip.rep h.pos i (h.all i h0 hi)
theorem Fit.hang {L : List Sp} (h : Fit L) {u p : Nat} {b : Bool} (hu : u < L.length) (hp : p < L.length) : Fit (Sq.hang L u b p) := fun i h0 hi => by
  rw [hang_len] at hi ⊢
  refine ⟨?_, fun d => ?_⟩
  · rw [hang_up]; split
    · exact hu
    · exact (h i h0 hi).1
  · rw [hang_dn]; split
    · exact hp
    · exact (h i h0 hi).2 d
section
variable {w : World} {rb ro g cap i n : Nat} {L : List Sp}
set_option maxRecDepth 100000 in
set_option maxHeartbeats 2000000 in
theorem rbn_any {c : Ctx} {a m : Nat} {l r' : T} {D : Ctx} (h : SqAt w rb ro g cap L) (hfit : Fit L) (z : Zip L c (.nd a l (plug D (.nd m .nil r')))) (hfs : fs (plug D (.nd m .nil r')) = m) :
    Calls Try.prog 80 #[.pointer (some ⟨rb, ro, none⟩), .int .i64 (a : Int)] w fun e w' => e = .returned (.int .i64 (upOf (D ++ (m, true, l) :: c) : Int)) ∧ Did w rb ro g cap (rbn L a m) w' := by
  obtain ⟨a1, a2, a3, a4, a5, a6, a7⟩ := z.rep
  have z0 : Zip L (D ++ (a, true, l) :: c) (.nd m .nil r') := (Zip.into (s := true) z).ins
  obtain ⟨m1, m2, m3, m4, m5, _, m7⟩ := z0.rep
  have zr := Zip.into (s := true) (o := l) z
  have hp := z.repc.pos
  have hr0 : (plug D (.nd m .nil r')).ix ≠ 0 := fun e => by
    have := (rep_ix zr.rep).1 e
    rw [this] at hfs
    exact m1 hfs.symm
  have nd0 := List.nodup_append.1 z0.nd
  have nma : m ≠ a := fun e => nd0.2.2 m (by simp [T.ids]) a (by
    have : ∀ (D : Ctx), a ∈ cids (D ++ (a, true, l) :: c) := by
      intro D
      induction D with
      | nil => simp [cids]
      | cons f D ih => obtain ⟨i, s, o⟩ := f; simp [cids, ih]
    exact this D) e
  have hr'm : r'.ix ≠ m := fun e => by
    have := nd0.1
    simp only [T.ids, List.nil_append, List.nodup_cons] at this
    exact this.1 (e ▸ ix_mem (t := r') (by rw [e]; exact m1))
  have hr'l : r'.ix < L.length := ix_lt m7 hp
  have lsr : lsp (plug D (.nd m .nil r')) ≤ L.length := by have := lsp_le (plug D (.nd m .nil r')); have := ids_le zr; omega
  have HF := hidMk (first_any h zr.rep hr0 lsr)
  rw [hfs, ← a5] at HF
  have HC1 := hidMk (fun (W : World) (hW : SqAt W rb ro g cap L) => replace_any hW m2 (hfit m (by omega) m2).1 hr'l hr'm)
  obtain ⟨L1, hL1⟩ : ∃ L1, repl L m r'.ix = L1 := ⟨_, rfl⟩
  have l1 : L1.length = L.length := by rw [← hL1]; exact hang_len _ _ _ _
  have f1 : Fit L1 := by rw [← hL1]; exact hfit.hang (hfit m (by omega) m2).1 hr'l
  rw [hL1] at HC1
  have a21 : a < L1.length := by omega
  have m21 : m < L1.length := by omega
  have HC2 := hidMk (fun (W : World) (d : Did w rb ro g cap L1 W) => replace_any d.at' a21 (f1 a (by omega) a21).1 m21 nma)
  obtain ⟨L2, hL2⟩ : ∃ L2, repl L1 a m = L2 := ⟨_, rfl⟩
  have l2 : L2.length = L.length := by rw [← hL2]; exact (hang_len _ _ _ _).trans l1
  have f2 : Fit L2 := by rw [← hL2]; exact f1.hang (f1 a (by omega) a21).1 m21
  rw [hL2] at HC2
  obtain ⟨q, hq⟩ : ∃ q, gt L2 a = q := ⟨_, rfl⟩
  have hlq : q.l < L.length := by have := (f2 a (by omega) (by omega)).2 false; rw [hq, l2] at this; exact this
  have hrq : q.r < L.length := by have := (f2 a (by omega) (by omega)).2 true; rw [hq, l2] at this; exact this
  have ER := hidMk (show rbn L a m = hung L2 m q 2 by
    unfold rbn
    simp only [m5, hL1, hL2, hq]
    rfl)
  have m5' : dn (gt L m) true = r'.ix := m5
  have HUP := hidMk m3
  have HUPo := hidMk (show upOf (D ++ (m, true, l) :: c) = if upOf (D ++ (a, true, l) :: c) = a then m else upOf (D ++ (a, true, l) :: c) by
    cases D with
    | nil => simp [upOf]
    | cons f D =>
      obtain ⟨i, s, o⟩ := f
      have : i ≠ a := fun e => by
        have := nd0.2.1
        simp only [cids, List.cons_append, List.nodup_cons, List.mem_append, not_or] at this
        have hm : ∀ (D : Ctx), a ∈ cids (D ++ (a, true, l) :: c) := by
          intro D
          induction D with
          | nil => simp [cids]
          | cons f D ih => obtain ⟨i, s, o⟩ := f; simp [cids, ih]
        exact this.1.2 (e ▸ hm D)
      simp only [List.cons_append, upOf]
      simp [this])
  obtain ⟨ch, hch⟩ : ∃ ch, upOf (D ++ (a, true, l) :: c) = ch := ⟨_, rfl⟩
  rw [hch] at HUP HUPo
  have HQ := hidMk hq
  have HL1 := hidMk l1
  have HL2 := hidMk l2
  have hl := h.len
  clear hch nd0 nma hr'm lsr m3 hq hL1 hL2 f1 f2 hfs hr0 z0 zr z a3 a4 a5 a6 a7 m4 m7
  go_enter Try.func80, Try.ntmps80
  go_upto_region 1 with fail
  refine rbn1 (m := m) (fun w' => Qt w w') _ _ _ rfl rfl rfl h a2 HF.out ?_
  intro a' w1 q1 ha
  subst ha
  replace h := h.qt q1
  simp only [Act.put, List.setIfInBounds_toArray, List.set_cons_zero, List.set_cons_succ, Nat.add_zero]
  go_upto_region 2 with fail
  refine rbn2 (m := m) _ _ _ rfl rfl rfl h m2 ?_
  rw [HUP.out]
  intro a' w2 hw ha
  subst ha
  obtain rfl : w2 = w1 := hw
  simp only [Act.put, List.setIfInBounds_toArray, List.set_cons_zero, List.set_cons_succ, Nat.add_zero]
  go_upto_region 3 with fail
  refine rbn3 (m := m) (fun w' => Did w2 rb ro g cap L1 w') _ _ _ rfl rfl rfl h m2 ?_ ?_
  · rw [m5']
    exact HC1.out _ h
  rw [m5']
  intro a' w3 d3 ha
  subst ha
  replace d3 := Did.from q1 d3
  simp only [Act.put, List.setIfInBounds_toArray, List.set_cons_zero, List.set_cons_succ, Nat.add_zero]
  clear HC1 HF
  go_upto_region 5 with (first
    | (go_at_call 79; refine (HC2.out _ d3).mono ?_; rintro e4 w4 ⟨rfl, d4⟩; clear HC2)
    | fail)
  replace d4 := d3.trans d4
  refine rbn5 (i := a) _ _ _ rfl rfl rfl d4.at' (by rw [HL2.out]; exact a2) ?_
  rw [HQ.out]
  intro a' w5 hw ha
  subst ha
  obtain rfl : w5 = w4 := hw
  simp only [Act.put, List.setIfInBounds_toArray, List.set_cons_zero, List.set_cons_succ, Nat.add_zero]
  clear m5' l1 l2 a21 m21 m5
  go_wp2
  go_loopw [52] (fun v52 wr => ∃ k : Nat, v52 = .int .i64 (k : Int) ∧ k ≤ 2 ∧ Did w rb ro g cap (hung L2 m q k) wr) (fun v52 _ => 2 - (match v52 with | .int _ i => i.toNat | _ => 0))
  case atStart => exact ⟨0, rfl, by omega, d4⟩
  case round =>
    obtain ⟨k, rfl, hk2, d⟩ := hrel
    by_cases hk : k < 2
    · have hk' : (k : Int) < 2 := by omega
      have hnb : (k : Int) = ((nb (wh k) : Nat) : Int) := by
        have : k = 0 ∨ k = 1 := by omega
        rcases this with rfl | rfl <;> rfl
      have HNB := hidMk hnb
      have lM : (hung L2 m q k).length = L.length := by rw [hung_len]; exact HL2.out
      have hdq : dn q (wh k) < (hung L2 m q k).length := by
        rw [lM]
        unfold dn
        split
        · exact hrq
        · exact hlq
      have HH := hidMk (hang_any (b := wh k) d.at' (u := m) (by rw [lM]; exact m2) hdq)
      rw [hung_next L2 m q k hk] at HH
      rw [hnb] at hk' ⊢
      clear hnb lM hdq
      go_upto_region 7 with fail
      refine rbn7 (q := q) (s := wh k) _ _ _ rfl rfl rfl ?_
      intro a' w6 hw ha
      subst ha
      obtain rfl : w6 = wr := hw
      simp only [Act.put, List.setIfInBounds_toArray, List.set_cons_zero, List.set_cons_succ]
      go_wp2_with (first
        | (go_at_call 76; refine HH.out.mono ?_; rintro e7 w7 ⟨rfl, d7⟩; clear HH)
        | fail)
      rw [show (((nb (wh k) : Nat) : Int) + 1) = ((k + 1 : Nat) : Int) by have := HNB.out; omega]
      refine ⟨⟨k + 1, rfl, hk, d.trans d7⟩, ?_⟩
      show 2 - ((k + 1 : Nat) : Int).toNat < 2 - ((nb (wh k) : Nat) : Int).toNat
      rw [← HNB.out]
      omega
    · obtain rfl : k = 2 := by omega
      clear hk hk2
      by_cases hca : ch = a
      · subst hca
        have HX := hidMk (show upOf (D ++ (m, true, l) :: c) = m by rw [HUPo.out, if_pos rfl])
        clear HUPo
        go_wp2
        go_ret
        refine ⟨by rw [HX.out]; rfl, ?_⟩
        rw [ER.out]
        exact d
      · have HX := hidMk (show upOf (D ++ (m, true, l) :: c) = ch by rw [HUPo.out, if_neg hca])
        have hca' : ¬ (ch : Int) = (a : Int) := by omega
        clear HUPo hca
        go_wp2
        go_ret
        refine ⟨by rw [HX.out]; rfl, ?_⟩
        rw [ER.out]
        exact d
end
end Go.Proofs.Ytlejbdepoemcjaa
