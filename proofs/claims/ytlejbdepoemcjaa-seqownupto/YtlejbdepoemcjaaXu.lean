import Derived.Test.YtlejbdepoemcjaaXu0
namespace Go.Proofs.Ytlejbdepoemcjaa
open Go.RowKit Sq
set_option linter.unusedVariables false
set_option linter.unusedSimpArgs false

/-- What counts. -/
def cq (L : List Sp) (c : Bool) (i : Nat) : Bool := !c || (gt L i).sh
theorem own_cq (L : List Sp) (i : Nat) (c : Bool) : own L i c = if cq L c i = true then 1 else 0 := by
  unfold own cq
  cases c <;> simp
theorem cnt_cq (L : List Sp) (c : Bool) (t : T) : cnt L c t = t.ids.countP (cq L c) := rfl
theorem under_nd {L : List Sp} {p i : Nat} {l r : T} (h : Rep L p (.nd i l r)) (hl : Cnt L l) (h0 : ∀ w, ct (gt L 0) w = 0) (c : Bool) : under L i false c = l.ids.countP (cq L c) := by
  unfold under
  rw [show dn (gt L i) false = l.ix from h.2.2.2.1, hl.at h0 c]
  rfl
section
variable {w : World} {rb ro g cap i n : Nat} {L : List Sp}
set_option maxRecDepth 100000 in
set_option maxHeartbeats 2000000 in
theorem rahead_any {t : T} {A B : List Nat} (c : Bool) (h : SqAt w rb ro g cap L) (hg : Good L t) (hi : t.ids = A ++ i :: B) :
    Calls Try.prog 88 #[.pointer (some ⟨rb, ro, none⟩), .int .i64 (i : Int), .int .i64 (nb c : Int)] w fun e w' => e = .returned (.int .i64 (A.countP (cq L c) : Int)) ∧ Qt w w' := by
  have him : i ∈ t.ids := by rw [hi]; simp
  obtain ⟨hi0, hil⟩ := hg.lt him
  obtain ⟨c0, l, r, et, z, hcc, hc⟩ := hg.focus him
  have hA : A = pre c0 ++ l.ids := by
    have nd := hg.nodup
    have e1 : t.ids = (pre c0 ++ l.ids) ++ i :: (r.ids ++ post c0) := by rw [et, plug_ids]; simp [T.ids]
    rw [hi] at e1 nd
    have key : ∀ (A A' B B' : List Nat), (A ++ i :: B).Nodup → A ++ i :: B = A' ++ i :: B' → A = A' := by
      intro A
      induction A with
      | nil =>
        intro A' B B' nd e
        cases A' with
        | nil => rfl
        | cons a A' =>
          simp only [List.nil_append, List.cons_append, List.cons.injEq] at e
          obtain ⟨rfl, e⟩ := e
          simp only [List.nil_append, List.nodup_cons] at nd
          exact absurd (by rw [e]; simp) nd.1
      | cons a A ih =>
        intro A' B B' nd e
        cases A' with
        | nil =>
          simp only [List.nil_append, List.cons_append, List.cons.injEq] at e
          obtain ⟨rfl, e⟩ := e
          simp only [List.cons_append, List.nodup_cons] at nd
          exact absurd (by simp) nd.1
        | cons a' A' =>
          simp only [List.cons_append, List.cons.injEq] at e
          simp only [List.cons_append, List.nodup_cons] at nd
          rw [e.1, ih A' B B' nd.2 e.2]
    exact key A _ B _ nd e1
  obtain ⟨N, hN⟩ : ∃ N, L.length = N := ⟨_, rfl⟩
  have hNl : N ≤ 1400000000000 := by rw [← hN]; exact h.len
  have HAL := hidMk (show A.countP (cq L c) ≤ N by
    have h1 : A.countP (cq L c) ≤ A.length := List.countP_le_length
    have h2 := ids_le hg.zip
    rw [hi] at h2
    simp at h2
    omega)
  obtain ⟨K, hK⟩ : ∃ K, A.countP (cq L c) = K := ⟨_, rfl⟩
  rw [hK]
  rw [hK] at HAL
  have HU := hidMk (under_any (b := false) (c := c) h hil (show dn (gt L i) false < L.length from (hg.fit i (by omega) hil).2 false))
  have eu : under L i false c = l.ids.countP (cq L c) := under_nd z.rep hc.2.1 hg.zip.z c
  have hK0 : l.ids.countP (cq L c) + (pre c0).countP (cq L c) = K := by rw [← hK, hA, List.countP_append]; omega
  rw [eu] at HU
  have HUP := hidMk z.rep.2.2.1
  have HN := hidMk hN
  clear eu hA hK hi him hN
  go_enter Try.func88, Try.ntmps88
  go_upto_region 1 with fail
  refine ahead1 (c := c) (fun w' => Qt w w') _ _ _ rfl rfl rfl rfl HU.out ?_
  intro a' w1 q1 ha
  subst ha
  have h1 := h.qt q1
  simp only [Act.put, List.setIfInBounds_toArray, List.set_cons_zero, List.set_cons_succ, Nat.add_zero]
  go_upto_region 2 with fail
  refine ahead2 _ _ _ rfl rfl rfl h1 hil ?_
  rw [HUP.out]
  intro a' w2 hw ha
  subst ha
  obtain rfl : w2 = w1 := hw
  simp only [Act.put, List.setIfInBounds_toArray, List.set_cons_zero, List.set_cons_succ, Nat.add_zero]
  have H0 := hidMk hK0
  clear hK0 HU HUP
  go_wp2
  go_loopw [1, 7, 8] (fun v1 v7 v8 wr => ∃ (c1 : Ctx) (t1 : T) (a m u : Nat), v1 = .int .i64 (a : Int) ∧ v7 = .int .i64 (m : Int) ∧ v8 = .int .i64 (u : Int) ∧ a = t1.ix ∧ a ≠ 0 ∧ u = upOf c1 ∧ Zip L c1 t1 ∧ CntC L c1 ∧ m + (pre c1).countP (cq L c) = K ∧ Qt w wr) (fun _ _ v8 _ => dep (fun a => (gt L a).up) N (intOf v8).toNat)
  case atStart => exact ⟨c0, .nd i l r, i, l.ids.countP (cq L c), upOf c0, rfl, rfl, rfl, rfl, hi0, rfl, z, hcc, H0.out, q1⟩
  case round =>
    clear H0 z hcc hc et h1 hil hi0
    obtain ⟨c1, t1, a, m, u, rfl, rfl, rfl, ha1, ha0, hu1, z1, cc1, hm, q⟩ := hrel
    have hx := h.qt q
    have HM := hidMk hm
    have hmN : m ≤ N := by have := HAL.out; omega
    cases c1 with
    | nil =>
      have hu0 : u = 0 := hu1
      subst hu0
      have HM2 := hidMk (show m = K by have := HM.out; simpa [pre] using this)
      clear hm hu1 z1 cc1 ha1
      go_wp2
      go_ret
      exact ⟨by rw [← HM2.out]; rfl, q⟩
    | cons f c2 =>
      obtain ⟨u', s, o⟩ := f
      obtain rfl : u = u' := hu1
      obtain ⟨r1, r2, r3, r4, r5, r6, r7⟩ := z1.repc
      have zo := z1.out
      have hal : a < L.length := by rw [ha1]; exact ix_lt z1.rep zo.repc.pos
      have hau : (gt L a).up < L.length := (hg.fit a (by omega) hal).1
      have sa : sideOf L a = s := by have := z1.side (by rw [← ha1]; exact ha0); rw [← ha1] at this; exact this
      have HSD := hidMk (side_any hx hal hau)
      rw [sa] at HSD
      have hu' : ¬ (u : Int) = 0 := by omega
      have HD1 := hidMk (show dep (fun a => (gt L a).up) N u = c2.length + 1 by
        have hcl := ctx_len z1.repc (List.nodup_append.1 z1.nd).2.1
        simp only [List.length_cons] at hcl
        obtain ⟨k, hk⟩ : ∃ k, N = k + 1 := ⟨N - 1, by have := HN.out; omega⟩
        rw [hk]
        show (if u = 0 then 0 else dep (fun a => (gt L a).up) k (gt L u).up + 1) = _
        rw [if_neg r1, r3, dep_ctx _ (fun a _ => rfl) c2 _ k r7 (by have := HN.out; omega)])
      have HD2 := hidMk (show dep (fun a => (gt L a).up) N (upOf c2) = c2.length by
        have hcl := ctx_len z1.repc (List.nodup_append.1 z1.nd).2.1
        simp only [List.length_cons] at hcl
        exact dep_ctx _ (fun a _ => rfl) c2 _ N r7 (by have := HN.out; omega))
      have HR3 := hidMk r3
      go_upto_region 5 with fail
      refine ahead5 (s := s) (fun w' => Qt w w') _ _ _ rfl rfl rfl (by cases s <;> rfl) ?_ ?_
      · refine HSD.out.mono ?_
        rintro e wa ⟨rfl, qa⟩
        exact ⟨rfl, q.trans qa⟩
      intro a' w3 q3 ha
      subst ha
      have h3 := h.qt q3
      simp only [Act.put, List.setIfInBounds_toArray, List.set_cons_zero, List.set_cons_succ, Nat.add_zero]
      clear HSD sa hau hm
      cases s with
      | false =>
        have HM2 := hidMk (show m + (pre c2).countP (cq L c) = K by have := HM.out; simpa [pre] using this)
        have Z2 := hidMk zo
        have CC2 := hidMk cc1.2
        clear zo cc1 z1 r4 r5 r6 r7 HM
        go_upto_region 4 with fail
        refine ahead4 (i := u) _ _ _ rfl rfl rfl h3 r2 ?_
        rw [HR3.out]
        intro a' w4 hw ha
        subst ha
        obtain rfl : w4 = w3 := hw
        simp only [Act.put, List.setIfInBounds_toArray, List.set_cons_zero, List.set_cons_succ, Nat.add_zero]
        go_wp2
        refine ⟨⟨c2, mk u false t1 o, u, m, upOf c2, rfl, rfl, rfl, (mk_ix _ _ _ _).symm, r1, rfl, Z2.out, CC2.out, HM2.out, q3⟩, ?_⟩
        show dep (fun a => (gt L a).up) N (upOf c2 : Int).toNat < dep (fun a => (gt L a).up) N (u : Int).toNat
        rw [Int.toNat_natCast, Int.toNat_natCast, HD1.out, HD2.out]
        omega
      | true =>
        have eup : upTo L u c = o.ids.countP (cq L c) + (if cq L c u = true then 1 else 0) := by
          unfold upTo
          rw [own_cq]
          congr 1
          unfold under
          rw [show dn (gt L u) false = o.ix from r5, cc1.1.at hg.zip.z c]
          rfl
        have HM2 := hidMk (show (m + upTo L u c) + (pre c2).countP (cq L c) = K by
          have := HM.out
          rw [eup]
          simp only [pre, if_true, List.countP_append, List.countP_cons, List.countP_nil] at this
          omega)
        have hb1 : upTo L u c ≤ N := by have := HM2.out; have := HAL.out; omega
        have hb2 : under L u false c ≤ 2800000000000 := by unfold upTo at hb1; omega
        have HUT := hidMk (upTo_any (c := c) h3 r2 ((hg.fit u (by omega) r2).2 false) hb2)
        have Z2 := hidMk zo
        have CC2 := hidMk cc1.2
        clear zo cc1 z1 r4 r5 r6 r7 HM eup
        obtain ⟨x, hx2⟩ : ∃ x, upTo L u c = x := ⟨_, rfl⟩
        rw [hx2] at HM2 HUT hb1
        clear hx2 hb2
        go_upto_region 6 with fail
        refine ahead6 (c := c) (x := x) (fun w' => Qt w w') _ _ _ rfl rfl rfl rfl rfl (by omega) ?_ ?_
        · refine HUT.out.mono ?_
          rintro e wa ⟨rfl, qa⟩
          exact ⟨rfl, q3.trans qa⟩
        intro a' w4 q4 ha
        subst ha
        have h4 := h.qt q4
        simp only [Act.put, List.setIfInBounds_toArray, List.set_cons_zero, List.set_cons_succ, Nat.add_zero]
        obtain ⟨mx, hmx⟩ : ∃ mx, m + x = mx := ⟨_, rfl⟩
        rw [hmx] at HM2 ⊢
        clear hmx hb1
        go_upto_region 4 with fail
        refine ahead4 (i := u) _ _ _ rfl rfl rfl h4 r2 ?_
        rw [HR3.out]
        intro a' w5 hw ha
        subst ha
        obtain rfl : w5 = w4 := hw
        simp only [Act.put, List.setIfInBounds_toArray, List.set_cons_zero, List.set_cons_succ, Nat.add_zero]
        go_wp2
        refine ⟨⟨c2, mk u true t1 o, u, mx, upOf c2, rfl, rfl, rfl, (mk_ix _ _ _ _).symm, r1, rfl, Z2.out, CC2.out, HM2.out, q4⟩, ?_⟩
        show dep (fun a => (gt L a).up) N (upOf c2 : Int).toNat < dep (fun a => (gt L a).up) N (u : Int).toNat
        rw [Int.toNat_natCast, Int.toNat_natCast, HD1.out, HD2.out]
        omega
end
end Go.Proofs.Ytlejbdepoemcjaa
