import Derived.Test.YtldlljobofnmmabDoorRge
namespace Go.Proofs.YtldlljobofnmmabDoor
open Go.RowKit
set_option linter.unusedVariables false
set_option linter.unusedSimpArgs false

/-- A function value that makes values of values. -/
structure Turns (w : World) (F : Nat) (caps : Array Value) (gv : VaV → VaV) : Prop where
  en : ∀ vs (W : World), (callFunc F vs).run Tryd.prog W = .ok (.enter F vs) W
  an : ∀ W, Below w.heap.size w W → ∀ x : VaV, x.ok → Calls Tryd.prog F (#[x.v] ++ caps) W fun e W' => e = .returned (gv x).v ∧ Below W.heap.size W W'
  ok : ∀ x : VaV, x.ok → (gv x).ok
def chg (gv : VaV → VaV) (y e : EnV) : EnV := { y with v := gv e.v }
set_option maxRecDepth 100000 in
set_option maxHeartbeats 2000000 in
theorem changed_nil (a ta : Option Addr) (n c tc : Nat) (f : Value) (w : World) : Calls Tryd.prog 34 #[.slice a n c, .slice ta 0 tc, f] w fun e w' => e = .returned (.slice a n c) ∧ w' = w := by
  go_enter Tryd.func34, Tryd.ntmps34
  go_wp2
  go_ret
  exact ⟨rfl, rfl⟩
set_option maxRecDepth 100000 in
set_option maxHeartbeats 4000000 in
/-- A list in which some are changed. -/
theorem changed_any {w : World} {base : Nat} {lv : Value} {L : List EnV} (hL : RN.Lo w base lv L) (ok : ∀ x ∈ L, x.ok) (hn : L.length ≤ 2500000000000) {ta : Option Addr} {tc : Nat} {T : List (Nat × EnV)} (hT : RD.At w ta T) (okT : ∀ t ∈ T, RD.ok t) (hlt : ∀ t ∈ T, t.1 < L.length) (hml : T.length ≤ 2500000000000) (hne : T ≠ []) {F : Nat} {caps : Array Value} {gv : VaV → VaV} (hG : Turns w F caps gv) :
    Calls Tryd.prog 34 #[lv, .slice ta T.length tc, .func (.func F) #[] caps] w fun e w' => ∃ v, e = .returned v ∧ RN.Own w' w.heap.size v (Rg.ch (chg gv) L T) ∧ Below w.heap.size w w' := by
  have hm0 : 0 < T.length := List.length_pos_iff.2 hne
  obtain ⟨a, c, rfl, hat, hc, hcm, _⟩ := hL.open RN_is ok
  have CL := hidMk (clone_any hL ok hn)
  obtain ⟨n, hnn⟩ : ∃ n, L.length = n := ⟨_, rfl⟩
  obtain ⟨m, hmm⟩ : ∃ m, T.length = m := ⟨_, rfl⟩
  have HN := hidMk hnn
  have HM := hidMk hmm
  have HLT := hidMk hlt
  rw [hnn] at hn CL ⊢
  rw [hmm] at hm0 hml ⊢
  have HT := hidMk hT
  have HK := hidMk ok
  have HKT := hidMk okT
  have HG := hidMk hG
  obtain ⟨G, hGG⟩ : ∃ G, Rg.ch (chg gv) L T = G := ⟨_, rfl⟩
  have HGG := hidMk hGG
  rw [hGG]
  clear hT ok okT hne hnn hmm hGG hlt hG hat hc hcm hL
  go_enter Tryd.func34, Tryd.ntmps34
  have hm1 : ((m : Int) == 0) = false := by simp; omega
  go_upto_region 4 with (first
    | (go_at_call 24; refine CL.out.mono ?_; rintro e w1 ⟨v, rfl, ov, bv⟩; have OV := hidMk (And.intro ov bv); clear ov bv CL)
    | fail)
  clear hm1
  obtain ⟨va, vc, ev⟩ := OV.out.1.form
  rw [HN.out] at ev
  subst ev
  go_wp2
  go_loopw [17] (fun v17 wr => ∃ (j : Nat) (cur : List EnV), v17 = .int .i64 (j : Int) ∧ j ≤ m ∧ Hid (RN.Own wr w.heap.size (.slice va n vc) cur ∧ Below w.heap.size w wr ∧ Rg.ch (chg gv) cur (T.drop j) = G ∧ cur.length = n ∧ ∀ x ∈ cur, x.ok)) (fun v17 wr => m - (match v17 with | .int _ i => i.toNat | _ => 0))
  case atStart => exact ⟨0, L, rfl, Nat.zero_le _, OV.out.1, OV.out.2, by rw [List.drop_zero]; exact HGG.out, HN.out, HK.out⟩
  case round =>
    clear OV
    obtain ⟨j, cur, rfl, hjm, HI⟩ := hrel
    by_cases hj : j < m
    · obtain ⟨t, htj⟩ : ∃ o, T[j]? = some o := ⟨_, List.getElem?_eq_getElem (by rw [HM.out]; exact hj)⟩
      have ht := HKT.out t (List.mem_of_getElem? htj)
      have hlt := HLT.out t (List.mem_of_getElem? htj)
      rw [HN.out] at hlt
      obtain ⟨tb, to, rfl, lb, hr⟩ := HT.out.at htj
      have dc := drop_cons htj
      obtain ⟨ow, bel, hch, hcl, cok⟩ := HI.out
      rw [dc] at hch
      obtain ⟨y, hy⟩ : ∃ y, cur[t.1]? = some y := ⟨_, List.getElem?_eq_getElem (by rw [hcl]; exact hlt)⟩
      have hch2 : Rg.ch (chg gv) (cur.set t.1 (chg gv y t.2)) (T.drop (j + 1)) = G := by
        rw [Rg.ch, hy] at hch
        exact hch
      have hyo := cok y (List.mem_of_getElem? hy)
      have hgo : (gv t.2.v).ok := HG.out.ok _ ht.1.w
      have zb := bel.size
      go_upto_region 6 with fail
      refine ch6 (tb := tb) (to := to) (m := m) (tc := tc) (j := j) (t := t) _ wr _ rfl rfl rfl ht hj (by omega) (rangeAt_keep hr (bel.block _ lb)) ?_
      intro a' w2 hw2 ha
      subst ha
      simp only [Act.put, List.setIfInBounds_toArray, List.set_cons_zero, List.set_cons_succ]
      obtain ⟨bx2, b2⟩ := RowT.bx_is RD wr t
      rw [show wr.alloc (.cells (RD.c t).toArray RD.e) = w2 from hw2.symm] at bx2 b2
      clear hw2
      have bel2 := bel.trans (b2.mono zb)
      have hub : ∀ k, (Value.slice va n vc).ownBlock = some k → k < wr.heap.size := fun k hk => ow.lt hk
      obtain ⟨g, cap, eg, _⟩ := RowT.own_seg RN_is ow cok hy (x := chg gv y t.2) ⟨hyo.i, hgo⟩ (q := 33) (n := 4) (gv t.2.v).c rfl (by
        show y.id.c ++ (gv t.2.v).c = _
        have l := IdK.len hyo.i
        show _ = (y.id.c ++ y.v.c).take 33 ++ (gv t.2.v).c ++ (y.id.c ++ y.v.c).drop (33 + 4)
        rw [← l, List.take_left, List.drop_of_length_le (by simp [VaV.len]), List.append_nil]) (by decide) (gv t.2.v).one szVa (v := (gv t.2.v).v) rfl
      rw [hcl] at eg
      injection eg with ea _ ec
      subst ea
      subst ec
      have CF : Hid (Calls Tryd.prog F (#[t.2.v.v] ++ caps) w2.drew fun e w' => e = .returned (gv t.2.v).v ∧ w'.rangeAt wr.heap.size 0 (sdC t) ∧ ∃ w3, (Instr.storeAt 39 (.pointer (some ⟨g, 0 + 37 * t.1 + 33, none⟩)) (gv t.2.v).v).run Tryd.prog w' = .ok () w3 ∧ w3.rangeAt wr.heap.size 0 (sdC t) ∧ (RN.Own w3 w.heap.size (.slice (some ⟨g, 0, none⟩) n vc) (cur.set t.1 (chg gv y t.2)) ∧ Below w.heap.size w w3)) := by
        refine (HG.out.an w2.drew bel2.drew t.2.v ht.1.w).mono ?_
        rintro e w' ⟨rfl, b'⟩
        have bel' := bel2.drew.trans (b'.mono bel2.drew.size)
        have bx' := (show RD.Bx w2.drew wr.heap.size t from bx2).below b'
        have ow' : RN.Own w' w.heap.size (.slice (some ⟨g, 0, none⟩) n vc) cur := (ow.below b2).below ((Below.refl w2.heap.size w2).drew.trans b')
        obtain ⟨g', cap', eg', _, w3, es, o3, t3, z3⟩ := RowT.own_seg RN_is ow' cok hy (x := chg gv y t.2) ⟨hyo.i, hgo⟩ (q := 33) (n := 4) (gv t.2.v).c rfl (by
          show y.id.c ++ (gv t.2.v).c = _
          have l := IdK.len hyo.i
          show _ = (y.id.c ++ y.v.c).take 33 ++ (gv t.2.v).c ++ (y.id.c ++ y.v.c).drop (33 + 4)
          rw [← l, List.take_left, List.drop_of_length_le (by simp [VaV.len]), List.append_nil]) (by decide) (gv t.2.v).one szVa (v := (gv t.2.v).v) rfl
        injection eg' with ea' _ _
        injection ea' with ea'
        injection ea' with ea' _ _
        subst ea'
        refine ⟨rfl, bx'.rng, w3, by rw [Nat.zero_add]; exact es, ?_, o3, bel'.trans (t3.below bel'.size (fun k hk => (ow'.cells hk).1))⟩
        have bx3 : RD.Bx w3 wr.heap.size t := (t3.block _ (Array.getElem?_eq_some_iff.1 bx').1 (fun e => by have := hub _ e; omega)).trans bx'
        exact bx3.rng
      have NX := hidMk (And.intro hch2 (And.intro (show (cur.set t.1 (chg gv y t.2)).length = n by rw [List.length_set]; exact hcl) (show ∀ x ∈ cur.set t.1 (chg gv y t.2), x.ok from fun x hx => by
        rcases List.mem_or_eq_of_mem_set hx with q | q
        · exact cok x q
        · rw [q]; exact ⟨hyo.i, hgo⟩)))
      have bx2d : RD.Bx w2.drew wr.heap.size t := bx2
      have EN := hidMk HG.out.en
      clear HI ow hch hch2 cok dc htj hr hub
      go_upto_region 7 with fail
      refine ch7 (bx := wr.heap.size) (F := F) (eb := g) (eo := 0) (n := n) (c := vc) (caps := caps) (t := t) (x := gv t.2.v) (fun w' => RN.Own w' w.heap.size (.slice (some ⟨g, 0, none⟩) n vc) (cur.set t.1 (chg gv y t.2)) ∧ Below w.heap.size w w') _ w2 _ rfl rfl rfl rfl ht hlt (by omega) bx2d.rng EN.out CF.out ?_
      intro a' w4 h4 ha
      subst ha
      simp only [Act.put, List.setIfInBounds_toArray, List.set_cons_zero, List.set_cons_succ]
      have H4 := hidMk h4
      clear CF EN h4
      go_wp2
      rw [show ((j : Int) + 1) = ((j + 1 : Nat) : Int) by omega]
      refine ⟨⟨j + 1, _, rfl, hj, H4.out.1, H4.out.2, NX.out.1, NX.out.2.1, NX.out.2.2⟩, ?_⟩
      show m - ((j + 1 : Nat) : Int).toNat < m - (j : Int).toNat
      omega
    · obtain rfl : m = j := by omega
      obtain ⟨ow, bel, hch, hcl, cok⟩ := HI.out
      rw [show T.drop m = [] from List.drop_of_length_le (by rw [HM.out]; omega)] at hch
      have hch2 : cur = G := hch
      rw [hch2] at ow
      have FN := hidMk (And.intro ow bel)
      clear HI ow bel hch hch2 hcl cok
      go_wp2
      go_ret
      exact ⟨_, rfl, FN.out.1, FN.out.2⟩
end Go.Proofs.YtldlljobofnmmabDoor
