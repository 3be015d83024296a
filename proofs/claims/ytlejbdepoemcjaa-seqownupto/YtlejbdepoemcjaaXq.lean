import Derived.Test.YtlejbdepoemcjaaXo
namespace Go.Proofs.Ytlejbdepoemcjaa
open Go.RowKit Sq
set_option linter.unusedVariables false
set_option linter.unusedSimpArgs false

section
variable {w : World} {rb ro g cap i n : Nat} {L : List Sp}
/-- A whole spot laid over another one. -/
theorem st_sp (h : SqAt w rb ro g cap L) {f : Nat} (hf : f < L.length) {s : Sp} (hs : KpV.ok s.kp) : ∃ w', (Instr.storeAt 113 (.pointer (some ⟨g, 73 * f, none⟩)) (Sp.v s)).run Try.prog w = .ok () w' ∧ Did w rb ro g cap (md L f (fun _ => s)) w' := by
  have l1 := Sp.len (h.ok.gt hf)
  obtain ⟨w', e, a, t, z⟩ := h.seg (k := 0) (n := 73) (t := 113) (v := Sp.v s) hf (fun _ => s) (Sp.c s) (Sp.len hs) (by simp [l1]) (by omega) hs (Sp.one s) szS rfl
  exact ⟨w', e, a, t, z⟩
/-- How far the sides of a moved spot are hung anew. -/
def hung (L : List Sp) (f : Nat) (q : Sp) (k : Nat) : List Sp := if k = 0 then L else if k = 1 then hang L f false q.l else hang (hang L f false q.l) f true q.r
theorem hung_len (L : List Sp) (f : Nat) (q : Sp) (k : Nat) : (hung L f q k).length = L.length := by
  unfold hung
  split
  · rfl
  · split
    · exact hang_len _ _ _ _
    · rw [hang_len, hang_len]
theorem hung_next (L : List Sp) (f : Nat) (q : Sp) (k : Nat) (hk : k < 2) : hang (hung L f q k) f (wh k) (dn q (wh k)) = hung L f q (k + 1) := by
  have : k = 0 ∨ k = 1 := by omega
  rcases this with rfl | rfl <;> rfl
set_option maxRecDepth 100000 in
set_option maxHeartbeats 2000000 in
theorem fill_any {t : T} {f : Nat} (h : SqAt w rb ro g cap L) (zt : Zip L [] t) (ct : Cnt L t) (hn : L.length = n + 1) (hf : f ≠ 0) (hfl : f < L.length) (hft : f ∉ t.ids) (hall : ∀ j, 0 < j → j < L.length → j ≠ f → j ∈ t.ids) :
    Calls Try.prog 81 #[.pointer (some ⟨rb, ro, none⟩), .int .i64 (f : Int)] w fun e w' => e = .returned (.tuple #[]) ∧ Moved w rb ro g g cap (fill L f) w' := by
  have hl := h.len
  obtain ⟨t', gd, fl, _, _⟩ := fill_good zt ct hn hf (by omega) hft hall
  have HE := hidMk (fun (W : World) (M : List Sp) (d : Did w rb ro g cap M W) (hM : M.length = n + 1) (eM : fill L f = M.take n) => show Calls Try.prog 93 #[.slice (some ⟨g, 0, none⟩) M.length cap, .int .i64 (n : Int), .int .i64 ((n + 1 : Nat) : Int)] W fun e w' => e = .returned (.slice (some ⟨g, 0, none⟩) n cap) ∧ ∃ w2, (Instr.storeAt 85 (.pointer (some ⟨rb, ro + 0, none⟩)) (.slice (some ⟨g, 0, none⟩) n cap)).run Try.prog w' = .ok () w2 ∧ Moved w rb ro g g cap (fill L f) w2 from by
    have c1 := delete_any d.at' hM
    rw [hM]
    refine c1.mono ?_
    rintro e w' ⟨rfl, t1, z1, o1⟩
    have hrb : w'.heap[rb]? = W.heap[rb]? := t1.block rb d.at'.lt.1 d.at'.ne
    have hc2 : w'.cell? ⟨rb, ro, none⟩ = some (.slice (some ⟨g, 0, none⟩) M.length cap) := (World.cell?_of_block (a := ⟨rb, ro, none⟩) hrb).trans d.at'.hd
    obtain ⟨e3, c3, k3, o3⟩ := st_hd (a := some ⟨g, 0, none⟩) (n := n) (c := cap) hc2 (by rw [hrb]; exact d.at'.bk)
    have ts := set_tch w' rb ro (.slice (some ⟨g, 0, none⟩) n cap)
    have okF : OkS (fill L f) := by rw [eM]; exact fun s hs => d.at'.ok s (List.mem_of_mem_take hs)
    refine ⟨rfl, _, e3, ⟨⟨by rw [fl]; exact c3, ?_, okF, h.ne, by rw [fl]; omega, k3⟩, ?_, .inl rfl, fun q hq => (o3 q hq).trans ?_⟩⟩
    · rw [fl, eM]
      refine ⟨o1.1, ?_⟩
      rcases o1.2 with ⟨e, _⟩ | ⟨g', cap', cur, e, hb, hg, r⟩
      · cases e
      · have e2 := e
        simp only [Value.slice.injEq, Option.some.injEq, Addr.mk.injEq] at e2
        obtain ⟨⟨rfl, _⟩, _, rfl⟩ := e2
        exact .inr ⟨g, cap, cur, rfl, hb, (ts.block g (Array.getElem?_eq_some_iff.1 hg).1 (fun q => h.ne q.symm)).trans hg, r⟩
    · exact ((d.tch.trans t1).mono (fun j _ q => Or.inl q)).trans (ts.mono (fun j _ q => Or.inr q))
    · exact (World.cell?_of_block (a := ⟨rb, q, none⟩) hrb).trans (World.cell?_of_block (a := ⟨rb, q, none⟩) (d.tch.block rb h.lt.1 h.ne)))
  clear gd fl
  go_enter Try.func81, Try.ntmps81
  go_upto_region 0 with fail
  refine fill0 (n := n) _ _ _ rfl rfl h ⟨hn, by omega⟩ ?_
  intro a' w1 hw ha
  subst ha
  obtain rfl : w1 = w := hw
  simp only [Act.put, List.setIfInBounds_toArray, List.set_cons_zero, List.set_cons_succ]
  have HN := hidMk hn
  clear hn
  by_cases e : f = n
  · subst e
    have eM : fill L f = L.take f := by unfold fill; rw [HN.out, show f + 1 - 1 = f by omega, if_pos rfl]
    have H1 := hidMk (HE.out _ _ (Did.refl h) HN.out eM)
    clear HE eM
    go_upto_region 9 with fail
    refine fill9 (n := f) (fun w' => Moved w1 rb ro g g cap (fill L f) w') _ _ _ rfl rfl rfl h (by have := HN.out; omega) H1.out ?_
    intro a' w2 hw ha
    subst ha
    simp only [Act.put, List.setIfInBounds_toArray, List.set_cons_zero, List.set_cons_succ]
    go_wp2
    go_end0
    exact ⟨rfl, hw⟩
  · have hnt : n ∈ t.ids := hall n (by have := HN.out; omega) (by have := HN.out; omega) (fun q => e q.symm)
    have hnl := (zt.rep.mem n hnt).2
    obtain ⟨c, l, r, et⟩ := Sq.focus [] hnt
    replace et : t = plug c (.nd n l r) := et
    have z := zt
    rw [et] at z
    have z1 := z.unplug
    have hul : (gt L n).up < L.length := by rw [z1.rep.2.2.1]; exact z1.repc.up_lt
    have hll : (gt L n).l < L.length := by rw [z1.rep.2.2.2.1]; exact ix_lt z1.rep.2.2.2.2.2.1 zt.repc.pos
    have hrl : (gt L n).r < L.length := by rw [z1.rep.2.2.2.2.1]; exact ix_lt z1.rep.2.2.2.2.2.2 zt.repc.pos
    have HR := hidMk (replace_any h hnl hul hfl e)
    obtain ⟨L1, hL1⟩ : ∃ L1, repl L n f = L1 := ⟨_, rfl⟩
    have k1 : Kept L L1 := by rw [← hL1]; exact hang_kept _ _ _ _
    have g1 : ∀ b, dn (gt L1 n) b = dn (gt L n) b := fun b => by
      rw [← hL1]
      unfold repl
      rw [z1.rep.2.2.1, hang_dn, if_neg (fun q => ?_)]
      rcases upOf_mem c with e0 | e0
      · exact z1.rep.1 (by omega)
      · exact (List.nodup_append.1 z1.nd).2.2 n (by simp [T.ids]) n (q.1 ▸ e0) rfl
    obtain ⟨L2, hL2⟩ : ∃ L2, md L1 f (fun _ => gt L1 n) = L2 := ⟨_, rfl⟩
    have l2 : L2.length = L.length := by rw [← hL2, md_len]; exact k1.len
    have g2 : gt L2 f = gt L1 n := by rw [← hL2, gt_same L1 _ (by rw [k1.len]; exact hfl)]
    have eM : fill L f = (hung L2 f (gt L2 f) 2).take n := by
      unfold fill
      rw [HN.out, show n + 1 - 1 = n by omega, if_neg e]
      congr 1
      unfold Sq.move hung
      simp only [hL1, hL2]
      rfl
    have hlf : (gt L2 f).l < L.length := by have := g1 false; simp only [dn, Bool.false_eq_true, if_false] at this; rw [g2, this]; exact hll
    have hrf : (gt L2 f).r < L.length := by have := g1 true; simp only [dn, if_true] at this; rw [g2, this]; exact hrl
    obtain ⟨q, hq⟩ : ∃ q, gt L2 f = q := ⟨_, rfl⟩
    have HQ := hidMk hq
    rw [hq] at eM hlf hrf
    rw [hL1] at HR
    have EM := hidMk eM
    have hne : ¬ (f : Int) = (n : Int) := by omega
    clear hul hll hrl z z1 et c l r g1 g2 hL1 eM hq
    go_upto_region 3 with (first
      | (go_at_call 79; refine HR.out.mono ?_; rintro e2 w2 ⟨rfl, d2⟩; clear HR)
      | fail)
    have hnl1 : n < L1.length := by rw [k1.len]; exact hnl
    have hfl1 : f < L1.length := by rw [k1.len]; exact hfl
    have okn : KpV.ok (gt L1 n).kp := d2.at'.ok.gt hnl1
    obtain ⟨w3, e3, d3⟩ := st_sp d2.at'.drew hfl1 okn
    have lL1 := k1.len
    refine fill3 (g := g) (cap := cap) (N := L1.length) (f := f) (e := n) (sv := Sp.v (gt L1 n)) _ _ _ rfl rfl rfl rfl ⟨R_sl d2.at'.drew, R_sp d2.at'.drew hnl1⟩ (fun W => R_ix hnl1 (by omega) W) (fun W => R_ix hfl1 (by omega) W) e3 ⟨?_, ?_⟩ ?_
    · have := R_sl d3.at'
      rwa [md_len] at this
    · have := R_sp d3.at' (i := n) (by rw [md_len]; exact hnl1)
      rwa [gt_ne L1 _ e] at this
    intro a' w4 hw ha
    subst ha
    obtain rfl : w4 = w3 := hw
    rw [hL2] at d3
    have d4 := d2.trans (Did.from (Qt.drew _) d3)
    simp only [Act.put, List.setIfInBounds_toArray, List.set_cons_zero, List.set_cons_succ]
    have hfl2 : f < L2.length := by omega
    have HL2 := hidMk l2
    clear hne e3 d3 hnl1 hfl1 okn lL1 l2
    go_upto_region 4 with fail
    refine fill4 (f := f) _ _ _ rfl rfl rfl d4.at' hfl2 ?_
    rw [HQ.out]
    intro a' w5 hw ha
    subst ha
    obtain rfl : w5 = w4 := hw
    simp only [Act.put, List.setIfInBounds_toArray, List.set_cons_zero, List.set_cons_succ, Nat.add_zero]
    go_wp2
    go_loopw [41] (fun v41 wr => ∃ k : Nat, v41 = .int .i64 (k : Int) ∧ k ≤ 2 ∧ Did w1 rb ro g cap (hung L2 f q k) wr) (fun v41 _ => 2 - (match v41 with | .int _ i => i.toNat | _ => 0))
    case atStart => exact ⟨0, rfl, by omega, d4⟩
    case round =>
      obtain ⟨k, rfl, hk2, d⟩ := hrel
      by_cases hk : k < 2
      · have hk' : (k : Int) < 2 := by omega
        have hnb : (k : Int) = ((nb (wh k) : Nat) : Int) := by
          have : k = 0 ∨ k = 1 := by omega
          rcases this with rfl | rfl <;> rfl
        have HNB := hidMk hnb
        have lM : (hung L2 f q k).length = L.length := by rw [hung_len]; exact HL2.out
        have hdq : dn q (wh k) < (hung L2 f q k).length := by
          rw [lM]
          unfold dn
          split
          · exact hrf
          · exact hlf
        have HH := hidMk (hang_any (b := wh k) d.at' (u := f) (by rw [lM]; exact hfl) hdq)
        rw [hung_next L2 f q k hk] at HH
        rw [hnb] at hk' ⊢
        clear hnb lM hdq
        go_upto_region 6 with fail
        refine fill6 (q := q) (s := wh k) _ _ _ rfl rfl rfl ?_
        intro a' w6 hw ha
        subst ha
        obtain rfl : w6 = wr := hw
        simp only [Act.put, List.setIfInBounds_toArray, List.set_cons_zero, List.set_cons_succ]
        go_wp2_with (first
          | (go_at_call 76; refine HH.out.mono ?_; rintro e7 w7 ⟨rfl, d7⟩; clear HH)
          | fail)
        rw [show (((nb (wh k) : Nat) : Int) + 1) = ((k + 1 : Nat) : Int) by have := HNB.out; omega]
        refine ⟨⟨k + 1, rfl, hk, d.trans d7⟩, ?_⟩
        show 2 - ((k + 1 : Nat) : Int).toNat < 2 - ((nb (wh k) : Nat) : Int).toNat
        rw [← HNB.out]
        omega
      · obtain rfl : k = 2 := by omega
        clear hk hk2
        have H1 := hidMk (HE.out _ _ d (by rw [hung_len, HL2.out]; exact HN.out) EM.out)
        go_upto_region 9 with fail
        refine fill9 (L := hung L2 f q 2) (n := n) (fun w' => Moved w1 rb ro g g cap (fill L f) w') _ _ _ rfl rfl rfl d.at' (by have := HN.out; omega) H1.out ?_
        intro a' w2 hw ha
        subst ha
        simp only [Act.put, List.setIfInBounds_toArray, List.set_cons_zero, List.set_cons_succ]
        go_wp2
        go_end0
        exact ⟨rfl, hw⟩
end
end Go.Proofs.Ytlejbdepoemcjaa
