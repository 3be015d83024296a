import Derived.Test.YtldlljobofnmmaaDoorP0
import Derived.Laws.Externs
set_option maxRecDepth 100000
set_option maxHeartbeats 4000000
namespace Go.Proofs.YtldlljobofnmmaaDoor
open Go.RowKit
set_option linter.unusedVariables false
set_option linter.unusedSimpArgs false
theorem drop_cons {α : Type} {T : List α} {j : Nat} {t : α} (h : T[j]? = some t) : T.drop j = t :: T.drop (j + 1) := by
  obtain ⟨hl, e⟩ := List.getElem?_eq_some_iff.1 h
  rw [List.drop_eq_getElem_cons hl, e]
theorem without_nil (a ta : Option Addr) (n c tc : Nat) (w : World) : Calls Tryd.prog 50 #[.slice a n c, .slice ta 0 tc] w fun e w' => e = .returned (.slice a n c) ∧ w' = w := by
  go_enter Tryd.func50, Tryd.ntmps50
  go_wp2
  go_ret
  exact ⟨rfl, rfl⟩
theorem without_any {w : World} {a : Option Addr} {c : Nat} {L : List EnV} {sn : EnV → Bool} (hL : RN.At w a L) (hc : L.length ≤ c) (ok : ∀ x ∈ L, x.ok) (hn : L.length ≤ 2500000000000) {ta : Option Addr} {tc : Nat} {T : List (Nat × EnV)} (hT : RD.At w ta T) (okT : ∀ t ∈ T, RD.ok t) (eT : T = Rg.hadI sn 0 L) (hne : T ≠ []) :
    Calls Tryd.prog 50 #[.slice a L.length c, .slice ta T.length tc] w fun e w' => ∃ v, e = .returned v ∧ RN.Own w' w.heap.size v (Rg.res sn L) ∧ Below w.heap.size w w' := by
  have hml : T.length ≤ L.length := by rw [eT]; exact Rg.hadI_len sn L 0
  have hm0 : 0 < T.length := List.length_pos_iff.2 hne
  have hwo : Rg.wo L [] 0 T = Rg.res sn L := by rw [eT]; exact Rg.wo_all sn L
  have hok : Rg.WoOk L.length 0 T := by rw [eT]; exact Rg.wo_ok_all sn L
  obtain ⟨n, hnn⟩ : ∃ n, L.length = n := ⟨_, rfl⟩
  obtain ⟨m, hmm⟩ : ∃ m, T.length = m := ⟨_, rfl⟩
  have HN := hidMk hnn
  have HM := hidMk hmm
  rw [hnn] at hn hc hml hok ⊢
  rw [hmm] at hml hm0 ⊢
  obtain ⟨d, hd⟩ : ∃ d, m + d = n := ⟨n - m, by omega⟩
  have HD := hidMk hd
  have HL := hidMk hL
  have HT := hidMk hT
  have HK := hidMk ok
  have HKT := hidMk okT
  have HW := hidMk hwo
  have HO := hidMk hok
  clear hL hT ok okT eT hne hwo hok hnn hmm hd
  obtain ⟨w1, em, om, bm⟩ := RowT.make0 RN_is w w.heap.size d (by show d * 80 ≤ _; have := HD.out; omega) (by have := HD.out; omega) (Nat.le_refl _)
  have EM := hidMk em
  have HI0 : Hid (RN.Own w1 w.heap.size (.slice (some ⟨w.heap.size, 0, none⟩) 0 d) [] ∧ Below w.heap.size w w1) := ⟨om, bm⟩
  clear em om bm
  go_enter Tryd.func50, Tryd.ntmps50
  have hm1 : ((m : Int) == 0) = false := by simp; omega
  go_upto_region 3 with fail
  refine wo3 (la := a) (n := n) (lc := c) (ta := ta) (m := m) (tc := tc) (d := d) (w2 := w1) _ w _ rfl rfl rfl HD.out (by omega) EM.out ?_
  intro a' w' hw' ha
  subst ha
  obtain rfl : w1 = w' := hw'.symm
  simp only [Act.put, List.setIfInBounds_toArray, List.set_cons_zero, List.set_cons_succ]
  clear EM hm1
  go_wp2
  go_loopw [5, 6, 21] (fun v5 v6 v21 wr => ∃ (j f : Nat) (out : List EnV), v21 = .int .i64 (j : Int) ∧ j ≤ m ∧ v6 = .int .i64 (f : Int) ∧ Hid (RN.Own wr w.heap.size v5 out ∧ Below w.heap.size w wr ∧ Rg.wo L out f (T.drop j) = Rg.res sn L ∧ Rg.WoOk n f (T.drop j) ∧ out.length ≤ f)) (fun _ _ v21 wr => m - (match v21 with | .int _ i => i.toNat | _ => 0))
  case atStart => exact ⟨0, 0, [], rfl, Nat.zero_le _, rfl, HI0.out.1, HI0.out.2, by rw [List.drop_zero]; exact HW.out, by rw [List.drop_zero]; exact HO.out, Nat.le_refl _⟩
  case round =>
    clear HI0
    obtain ⟨j, f, out, rfl, hjm, rfl, HI⟩ := hrel
    by_cases hj : j < m
    · obtain ⟨t, htj⟩ : ∃ o, T[j]? = some o := ⟨_, List.getElem?_eq_getElem (by rw [HM.out]; exact hj)⟩
      have ht := HKT.out t (List.mem_of_getElem? htj)
      obtain ⟨tb, to, rfl, lb, hr⟩ := HT.out.at htj
      have dc := drop_cons htj
      obtain ⟨ow, bel, wo, wok, ol⟩ := HI.out
      rw [dc] at wo wok
      obtain ⟨k1, k2, k3⟩ := wok
      have zb := bel.size
      go_upto_region 7 with fail
      refine wo7 (tb := tb) (to := to) (m := m) (tc := tc) (j := j) (t := t) _ wr _ rfl rfl rfl ht hj (by omega) (rangeAt_keep hr (bel.block _ lb)) ?_
      intro a' w2 hw2 ha
      subst ha
      simp only [Act.put, List.setIfInBounds_toArray, List.set_cons_zero, List.set_cons_succ]
      obtain ⟨bx2, b2⟩ := RowT.bx_is RD wr t
      rw [show wr.alloc (.cells (RD.c t).toArray RD.e) = w2 from hw2.symm] at bx2 b2
      clear hw2
      have bel2 := bel.trans (b2.mono zb)
      have ow2 := ow.below b2
      obtain ⟨pa, pc, es, hp⟩ := RowT.sl_mid RN_is (HL.out.below bel2) (by rw [HN.out]; exact hc) k1 (by rw [HN.out]; omega)
      rw [HN.out] at es
      have pl : ((L.take t.1).drop f).length = t.1 - f := by rw [List.length_drop, List.length_take, HN.out]; omega
      have pok : ∀ x ∈ (L.take t.1).drop f, x.ok := fun x hx => HK.out x (List.mem_of_mem_take (List.mem_of_mem_drop hx))
      obtain ⟨u2, w3, e3, o3, g3, q3⟩ := RowT.run_app RN_is w2 w.heap.size _ out pa _ pc ow2 hp pok (by rw [pl]; unfold maxLen; omega) (by rw [pl]; show _ * 80 ≤ _; omega) bel2.size
      rw [pl] at e3
      have bel3 : Below w.heap.size w w3 := bel2.grown g3 bel2.size (fun k hk => (ow2.cells hk).1)
      have bx3 : Hid (RD.Bx w3 wr.heap.size t) := by
        refine (g3.block _ (Array.getElem?_eq_some_iff.1 bx2).1 (fun e => ?_)).trans bx2
        have := ow.lt e.symm
        omega
      have NX : Hid (RN.Own w3 w.heap.size u2 (out ++ (L.take t.1).drop f) ∧ Below w.heap.size w w3 ∧ Rg.wo L (out ++ (L.take t.1).drop f) (t.1 + 1) (T.drop (j + 1)) = Rg.res sn L ∧ Rg.WoOk n (t.1 + 1) (T.drop (j + 1)) ∧ (out ++ (L.take t.1).drop f).length ≤ t.1 + 1) := ⟨o3, bel3, wo, k3, by rw [List.length_append, pl]; omega⟩
      have E3 := hidMk e3
      have ES := hidMk (es w2)
      have ht2 := ht.2
      clear ow wo k3 ow2 hp pok e3 o3 g3 q3 bel3 HI es dc htj hr pl
      go_upto_region 8 with fail
      refine wo8 (bx := wr.heap.size) (f := f) (t := t) (pv := .slice pa (t.1 - f) pc) (u2 := u2) (w2 := w3) _ w2 _ rfl rfl rfl rfl rfl bx2.rng ES.out E3.out ?_
      intro a' w4 hw4 ha
      subst ha
      obtain rfl : w3 = w4 := hw4.symm
      simp only [Act.put, List.setIfInBounds_toArray, List.set_cons_zero, List.set_cons_succ]
      clear E3 ES bx2
      obtain ⟨g, hg⟩ : ∃ g, t.1 + 1 = g := ⟨_, rfl⟩
      rw [hg] at NX
      go_upto_region 9 with fail
      refine wo9 (bx := wr.heap.size) (g := g) (t := t) _ w3 _ rfl rfl bx3.out.rng hg (by omega) ?_
      intro a' w4 hw4 ha
      subst ha
      obtain rfl : w3 = w4 := hw4.symm
      simp only [Act.put, List.setIfInBounds_toArray, List.set_cons_zero, List.set_cons_succ]
      clear bx3 hg
      go_wp2
      rw [show ((j : Int) + 1) = ((j + 1 : Nat) : Int) by omega]
      refine ⟨⟨j + 1, g, _, rfl, hj, rfl, NX⟩, ?_⟩
      show m - ((j + 1 : Nat) : Int).toNat < m - (j : Int).toNat
      omega
    · obtain rfl : m = j := by omega
      obtain ⟨ow, bel, wo, wok, ol⟩ := HI.out
      rw [show T.drop m = [] from List.drop_of_length_le (by rw [HM.out]; omega)] at wo wok
      have hf : f ≤ n := wok
      have wo2 : out ++ L.drop f = Rg.res sn L := wo
      obtain ⟨pa, pc, es, hp, _⟩ := RowT.sl_from RN_is (HL.out.below bel) (by rw [HN.out]; exact hc) (show f ≤ L.length by rw [HN.out]; exact hf)
      rw [HN.out] at es
      have pl : (L.drop f).length = n - f := by rw [List.length_drop, HN.out]
      have pok : ∀ x ∈ L.drop f, x.ok := fun x hx => HK.out x (List.mem_of_mem_drop hx)
      obtain ⟨u2, w3, e3, o3, g3, q3⟩ := RowT.run_app RN_is wr w.heap.size _ out pa _ pc ow hp pok (by rw [pl]; unfold maxLen; omega) (by rw [pl]; show _ * 80 ≤ _; omega) bel.size
      rw [pl] at e3
      rw [wo2] at o3
      have bel3 : Below w.heap.size w w3 := bel.grown g3 bel.size (fun k hk => (ow.cells hk).1)
      have E3 := hidMk e3
      have ES := hidMk (es wr)
      have FN : Hid (RN.Own w3 w.heap.size u2 (Rg.res sn L) ∧ Below w.heap.size w w3) := ⟨o3, bel3⟩
      clear HI ow wo wok wo2 es hp pl pok e3 o3 g3 q3 bel3
      go_upto_region 11 with fail
      refine wo11 (f := f) (pv := .slice pa (n - f) pc) (u2 := u2) (w2 := w3) _ wr _ rfl rfl rfl rfl ES.out E3.out ?_
      intro a' w4 hw4 ha
      subst ha
      obtain rfl : w3 = w4 := hw4.symm
      simp only [Act.put, List.setIfInBounds_toArray, List.set_cons_zero, List.set_cons_succ]
      clear ES E3
      go_wp2
      go_ret
      exact ⟨_, rfl, FN.out.1, FN.out.2⟩
theorem st_atG {w : World} {g o n : Nat} {t ty : TypeId} {cur : Array Value} {v : Value} {vs : List Value} (hs : (Tryd.prog.info? t).map (·.size) = some n) (hv : v.cells = vs.toArray) (hl : vs.length = n) (h1 : ∀ x ∈ vs, x.oneCell' = true) (hg : w.heap[g]? = some (.cells cur ty (0, 0))) (hb : o + n ≤ cur.size) :
    (Instr.storeAt t (.pointer (some ⟨g, o, none⟩)) v).run Tryd.prog w = .ok () (w.setRow g (cur.toList.take o ++ vs ++ cur.toList.drop (o + vs.length)).toArray) := by
  have h := run_storeCells_at Tryd.prog g o ty vs 0 cur w hg (by rw [hl]; omega) h1
  rw [Nat.add_zero] at h
  cases hq : Tryd.prog.info? t with
  | none => rw [hq] at hs; simp at hs
  | some ii =>
    rw [hq] at hs
    simp at hs
    have hcz : v.cells.size = ii.size := by rw [hv]; simp [hl, hs]
    simp only [Instr.storeAt, Instr.sureAddr, Sem.run_bind, Sem.run_pure, Result.andThen_ok, storeVar, sizeOf, typeInfo, hq, hv]
    simp [typeInfo, hq, hl, hs, h]
section
variable {κ : Type} {R : RowT κ}
theorem RowT.own_seg (I : R.Is) {w : World} {base : Nat} {v0 : Value} {L : List κ} (own : R.Own w base v0 L) (ok : ∀ x ∈ L, R.ok x) {i : Nat} {y x : κ} (hi : L[i]? = some y) (hx : R.ok x) {q n : Nat} (vs : List Value) (hn : vs.length = n) (hf : R.c x = (R.c y).take q ++ vs ++ (R.c y).drop (q + n)) (hqn : q + n ≤ R.k) (h1 : ∀ u ∈ vs, u.oneCell' = true) {t : TypeId} {v : Value} (hs : (Tryd.prog.info? t).map (·.size) = some n) (hv : v.cells = vs.toArray) :
    ∃ g cap, v0 = .slice (some ⟨g, 0, none⟩) L.length cap ∧ g < w.heap.size ∧ ∃ w', (Instr.storeAt t (.pointer (some ⟨g, R.k * i + q, none⟩)) v).run Tryd.prog w = .ok () w' ∧ R.Own w' base v0 (L.set i x) ∧ Tch (fun j => v0.ownBlock = some j) w w' ∧ w'.heap.size = w.heap.size := by
  obtain ⟨hil, hiy⟩ := List.getElem?_eq_some_iff.1 hi
  rcases own.2 with ⟨rfl, hn⟩ | ⟨g, cap, cur, rfl, hbg, hg, hnc, hcm, hcs, htake⟩
  · omega
  · have hkn : R.k * i + R.k ≤ R.k * cap := by rw [← Nat.mul_succ]; exact Nat.mul_le_mul_left _ (by omega)
    have hb : R.k * i + R.k ≤ cur.size := by rw [hcs, Nat.mul_comm cap]; exact hkn
    refine ⟨g, cap, rfl, (Array.getElem?_eq_some_iff.1 hg).1, _, st_atG hs hv hn h1 hg (o := R.k * i + q) (by omega), ?_, setRow_tch w g _, by simp [World.setRow]⟩
    have hA : ∃ A B, L = A ++ y :: B ∧ A.length = i := ⟨L.take i, L.drop (i + 1), by rw [← hiy, ← List.drop_eq_getElem_cons hil, List.take_append_drop], by simp; omega⟩
    obtain ⟨A, B, rfl, hA⟩ := hA
    have okA : ∀ x ∈ A, R.ok x := fun x hx => ok x (by simp [hx])
    have okB : ∀ x ∈ B, R.ok x := fun x hx => ok x (by simp [hx])
    have oky : R.ok y := ok y (by simp)
    have hset : (A ++ y :: B).set i x = A ++ x :: B := by rw [← hA, List.set_append_right _ _ (Nat.le_refl _)]; simp
    rw [hset]
    have ly := I.len y oky
    have hlA := RowT.flat_len I okA
    have hlB := RowT.flat_len I okB
    have fc : R.flat (A ++ x :: B) = (R.flat A ++ (R.c y).take q) ++ vs ++ ((R.c y).drop (q + n) ++ R.flat B) := by
      rw [RowT.flat_app, RowT.flat_cons, hf]
      simp
    have fc' : R.flat (A ++ y :: B) = (R.flat A ++ (R.c y).take q) ++ ((R.c y).drop q).take n ++ ((R.c y).drop (q + n) ++ R.flat B) := by
      rw [RowT.flat_app, RowT.flat_cons]
      have : R.c y = (R.c y).take q ++ (((R.c y).drop q).take n ++ (R.c y).drop (q + n)) := by
        rw [← List.drop_drop, List.take_append_drop, List.take_append_drop]
      conv => lhs; rw [this]
      simp
    have hlenx : (A ++ x :: B).length = (A ++ y :: B).length := by simp
    have hsum : (A ++ y :: B).length * R.k = R.k * A.length + R.k + R.k * B.length := by
      rw [Nat.mul_comm]
      simp only [List.length_append, List.length_cons, Nat.mul_add, Nat.mul_one]; omega
    refine ⟨?_, Or.inr ⟨g, cap, _, by rw [hlenx], hbg, setRow_heap w g cur _ R.e (0, 0) hg, by rw [hlenx]; exact hnc, hcm, ?_, ?_⟩⟩
    · rw [fc, hlenx, hsum]
      simp only [List.length_append, List.length_take, List.length_drop, hlA, hlB, ly, hn]
      omega
    · rw [← hcs]
      have : cur.toList.length = cur.size := by simp
      simp only [List.size_toArray, List.length_append, List.length_take, List.length_drop, hn]
      omega
    · rw [List.toList_toArray, fc, hlenx]
      rw [fc'] at htake
      refine RowT.take_seg htake ?_ ?_ ?_
      · rw [hsum]
        simp only [List.length_append, List.length_take, List.length_drop, hlA, hlB, ly]
        omega
      · simp only [List.length_append, List.length_take, hlA, ly, hA]
        omega
      · simp only [List.length_take, List.length_drop, ly, hn]
        omega
end
theorem with_nil (a ta : Option Addr) (n c tc : Nat) (w : World) : Calls Tryd.prog 53 #[.slice a n c, .slice ta 0 tc] w fun e w' => e = .returned (.slice a n c) ∧ w' = w := by
  go_enter Tryd.func53, Tryd.ntmps53
  go_wp2
  go_ret
  exact ⟨rfl, rfl⟩
theorem RowT.At.grown {κ : Type} {R : RowT κ} {w w' : World} {a : Option Addr} {L : List κ} {row : Option Nat} (h : R.At w a L) (g : w.grownBy w' row) (hne : ∀ b o, a = some ⟨b, o, none⟩ → some b ≠ row) : R.At w' a L := h.keepB g.size (fun b o e hl => g.block b hl (hne b o e))
theorem RowT.Bx.grown {κ : Type} {R : RowT κ} {w w' : World} {b : Nat} {x : κ} {row : Option Nat} (h : R.Bx w b x) (g : w.grownBy w' row) (hne : some b ≠ row) : R.Bx w' b x := (g.block b (Array.getElem?_eq_some_iff.1 h).1 hne).trans h
theorem RowT.Own.form {κ : Type} {R : RowT κ} {w : World} {base : Nat} {v : Value} {L : List κ} (h : R.Own w base v L) : ∃ a c, v = .slice a L.length c := by
  rcases h.2 with ⟨e, hn⟩ | ⟨g, cap, cur, e, _⟩
  · exact ⟨none, 0, by rw [e, hn]⟩
  · exact ⟨_, cap, e⟩
theorem app_two {w : World} {base bx : Nat} {u : Value} {l : List EnV} {t : Nat × EnV} (ow : RN.Own w base u l) (bx0 : RD.Bx w bx t) (hbx : u.ownBlock ≠ some bx) {pa : Option Addr} {pc : Nat} {M : List EnV} (hp : RN.At w pa M) (pok : ∀ x ∈ M, x.ok) (ht : RD.ok t) (hl : l.length + M.length + 1 ≤ 2500000000000) (hbase : base ≤ w.heap.size) :
    ∃ v1 sv1 u1 v2 sv2 u2 w1 w2 w3 y1 y2 y3, (Builtin.append_ #[60, 60] 60 #[u, .slice pa M.length pc]).run Tryd.prog w = .ok v1 w1 ∧ w1.rangeAt bx 0 (sdC t) ∧ (Instr.buildSlice 60 1 #[(0, t.2.a)]).run Tryd.prog w1 = .ok sv1 w2 ∧ w2.rangeAt bx 0 (sdC t) ∧ (Builtin.append_ #[60, 60] 60 #[v1, sv1]).run Tryd.prog w2 = .ok u1 w3 ∧ RD.Bx w3 bx t ∧
      (Instr.buildSlice 60 1 #[(0, t.2.a)]).run Tryd.prog w = .ok sv2 y1 ∧ y1.rangeAt bx 0 (sdC t) ∧ (Builtin.append_ #[60, 60] 60 #[u, .slice pa M.length pc]).run Tryd.prog y1 = .ok v2 y2 ∧ y2.rangeAt bx 0 (sdC t) ∧ (Builtin.append_ #[60, 60] 60 #[v2, sv2]).run Tryd.prog y2 = .ok u2 y3 ∧ RD.Bx y3 bx t ∧
      (RN.Own w3 base u1 (l ++ M ++ [t.2]) ∧ Below base w w3) ∧ (RN.Own y3 base u2 (l ++ M ++ [t.2]) ∧ Below base w y3) := by
  have lb := (Array.getElem?_eq_some_iff.1 bx0).1
  obtain ⟨v1, w1, e1, o1, g1, q1⟩ := RowT.run_app RN_is w base u l pa M pc ow hp pok (by unfold maxLen; omega) (by show _ * 80 ≤ _; omega) hbase
  have bx1 := bx0.grown g1 (fun e => hbx e.symm)
  have B1 : Below base w w1 := (Below.refl base w).grown g1 hbase (fun k hk => (ow.cells hk).1)
  obtain ⟨sv1, w2, u1, w3, e2, e3, o3, b2, z2, g3, q3⟩ := RowT.run_push RN_is w1 base v1 (l ++ M) t.2 o1 ht.1 (by rw [List.length_append]; unfold maxLen; omega) (by rw [List.length_append]; show _ * 80 ≤ _; omega) (Nat.le_trans hbase B1.size)
  have bx2 := bx1.below b2
  have n1 : v1.ownBlock ≠ some bx := fun e => by
    rcases q1 with q | q
    · rw [q] at e; exact hbx e
    · rw [q] at e; injection e with e; omega
  have bx3 := bx2.grown g3 (fun e => n1 e.symm)
  have B3 : Below base w w3 := (B1.trans (b2.mono (Nat.le_trans hbase B1.size))).grown g3 (Nat.le_trans hbase (Nat.le_trans B1.size b2.size)) (fun k hk => (o1.cells hk).1)
  have by1 : Below w.heap.size w (w.alloc (.cells (RN.c t.2).toArray RN.e)) := (Below.refl _ _).alloc (Nat.le_refl _) _
  have hlit := RowT.lit RN w t.2 RN.e
  have ebs := RowT.run_bs RN_is t.2 ht.1 w
  have zy : (w.alloc (.cells (RN.c t.2).toArray RN.e)).heap.size = w.heap.size + 1 := by simp
  generalize w.alloc (.cells (RN.c t.2).toArray RN.e) = y1 at *
  have bxy1 := bx0.below by1
  obtain ⟨v2, y2, f1, p1, k1, r1⟩ := RowT.run_app RN_is y1 base u l pa M pc (ow.below by1) (hp.below by1) pok (by unfold maxLen; omega) (by show _ * 80 ≤ _; omega) (by omega)
  have nu : ∀ k, u.ownBlock = some k → k < w.heap.size := fun k hk => ow.lt hk
  have bxy2 := bxy1.grown k1 (fun e => hbx e.symm)
  have hlit2 := hlit.grown k1 (fun b o e eu => by cases e; have := nu _ eu.symm; omega)
  have BY2 : Below base w y2 := (by1.mono hbase).grown k1 (by omega) (fun k hk => (ow.cells hk).1)
  obtain ⟨u2, y3, f3, p3, k3, r3⟩ := RowT.run_app RN_is y2 base v2 (l ++ M) _ [t.2] 1 p1 hlit2 (fun x hx => by rw [List.mem_singleton.1 hx]; exact ht.1) (by rw [List.length_append]; unfold maxLen; simp; omega) (by rw [List.length_append]; show _ * 80 ≤ _; simp; omega) (Nat.le_trans hbase BY2.size)
  have n2 : v2.ownBlock ≠ some bx := fun e => by
    rcases r1 with q | q
    · rw [q] at e; exact hbx e
    · rw [q] at e; injection e with e; omega
  have bxy3 := bxy2.grown k3 (fun e => n2 e.symm)
  have BY3 : Below base w y3 := BY2.grown k3 (Nat.le_trans hbase BY2.size) (fun k hk => (p1.cells hk).1)
  exact ⟨v1, sv1, u1, v2, _, u2, w1, w2, w3, y1, y2, y3, e1, bx1.rng, e2, bx2.rng, e3, bx3, ebs, bxy1.rng, f1, bxy2.rng, f3, bxy3, ⟨o3, B3⟩, ⟨p3, BY3⟩⟩
theorem with_any {w : World} {a : Option Addr} {c : Nat} {L : List EnV} (hL : RN.At w a L) (hc : L.length ≤ c) (ok : ∀ x ∈ L, x.ok) {ta : Option Addr} {tc : Nat} {T : List (Nat × EnV)} (hT : RD.At w ta T) (okT : ∀ t ∈ T, RD.ok t) (hW : Rg.WiOk [] L T) (hne : T ≠ []) (hn : L.length + T.length ≤ 2500000000000) :
    Calls Tryd.prog 53 #[.slice a L.length c, .slice ta T.length tc] w fun e w' => ∃ v, e = .returned v ∧ RN.Own w' w.heap.size v (Rg.wi [] L T) ∧ Below w.heap.size w w' := by
  have hm0 : 0 < T.length := List.length_pos_iff.2 hne
  obtain ⟨n, hnn⟩ : ∃ n, L.length = n := ⟨_, rfl⟩
  obtain ⟨m, hmm⟩ : ∃ m, T.length = m := ⟨_, rfl⟩
  have HN := hidMk hnn
  have HM := hidMk hmm
  rw [hnn] at hn hc ⊢
  rw [hmm] at hn hm0 ⊢
  obtain ⟨d, hd⟩ : ∃ d, n + m = d := ⟨_, rfl⟩
  have HD := hidMk hd
  have HL := hidMk hL
  have HT := hidMk hT
  have HK := hidMk ok
  have HKT := hidMk okT
  have HO := hidMk hW
  obtain ⟨G, hG⟩ : ∃ G, Rg.wi [] L T = G := ⟨_, rfl⟩
  have HG := hidMk hG
  rw [hG]
  clear hL hT ok okT hne hW hnn hmm hd hG
  obtain ⟨w1, em, om, bm⟩ := RowT.make0 RN_is w w.heap.size d (by show d * 80 ≤ _; have := HD.out; omega) (by have := HD.out; omega) (Nat.le_refl _)
  have EM := hidMk em
  have HI0 : Hid (RN.Own w1 w.heap.size (.slice (some ⟨w.heap.size, 0, none⟩) 0 d) [] ∧ Below w.heap.size w w1) := ⟨om, bm⟩
  clear em om bm
  go_enter Tryd.func53, Tryd.ntmps53
  have hm1 : ((m : Int) == 0) = false := by simp; omega
  go_upto_region 3 with fail
  refine wi3 (la := a) (n := n) (lc := c) (ta := ta) (m := m) (tc := tc) (d := d) (w2 := w1) _ w _ rfl rfl rfl HD.out (by have := HD.out; omega) EM.out ?_
  intro a' w' hw' ha
  subst ha
  obtain rfl : w1 = w' := hw'.symm
  simp only [Act.put, List.setIfInBounds_toArray, List.set_cons_zero, List.set_cons_succ]
  clear EM hm1
  go_wp2
  go_loopw [0, 5, 21] (fun v0 v5 v21 wr => ∃ (j : Nat) (l r : List EnV) (ra : Option Addr) (rn rc : Nat), v21 = .int .i64 (j : Int) ∧ j ≤ m ∧ v0 = .slice ra rn rc ∧ Hid (RN.Own wr w.heap.size v5 l ∧ Below w.heap.size w wr ∧ RN.At w ra r ∧ r.length = rn ∧ rn ≤ rc ∧ (∀ x ∈ r, x.ok) ∧ Rg.wi l r (T.drop j) = G ∧ Rg.WiOk l r (T.drop j) ∧ l.length + rn + m = n + m + j)) (fun _ _ v21 wr => m - (match v21 with | .int _ i => i.toNat | _ => 0))
  case atStart => exact ⟨0, [], L, a, n, c, rfl, Nat.zero_le _, rfl, HI0.out.1, HI0.out.2, HL.out, HN.out, hc, HK.out, by rw [List.drop_zero]; exact HG.out, by rw [List.drop_zero]; exact HO.out, by simp⟩
  case round =>
    clear HI0
    obtain ⟨j, l, r, ra, rn, rc, rfl, hjm, rfl, HI⟩ := hrel
    by_cases hj : j < m
    · obtain ⟨t, htj⟩ : ∃ o, T[j]? = some o := ⟨_, List.getElem?_eq_getElem (by rw [HM.out]; exact hj)⟩
      have ht := HKT.out t (List.mem_of_getElem? htj)
      obtain ⟨tb, to, rfl, lb, hr⟩ := HT.out.at htj
      have dc := drop_cons htj
      obtain ⟨ow, bel, rat, hrn, hrc, rok, wi, wok, sz⟩ := HI.out
      rw [dc] at wi wok
      obtain ⟨k1, k2, k3⟩ : l.length ≤ t.1 ∧ t.1 - l.length ≤ r.length ∧ Rg.WiOk (l ++ r.take (t.1 - l.length) ++ [t.2]) (r.drop (t.1 - l.length)) (T.drop (j + 1)) := by
        cases wok with
        | cons a b c => exact ⟨a, b, c⟩
      obtain ⟨dd, hdd⟩ : ∃ dd, t.1 - l.length = dd := ⟨_, rfl⟩
      have wi2 : Rg.wi (l ++ r.take (t.1 - l.length) ++ [t.2]) (r.drop (t.1 - l.length)) (T.drop (j + 1)) = G := wi
      rw [hdd] at k2 k3 wi2
      have zb := bel.size
      go_upto_region 6 with fail
      refine wi6 (tb := tb) (to := to) (m := m) (tc := tc) (j := j) (t := t) _ wr _ rfl rfl rfl ht hj (by omega) (rangeAt_keep hr (bel.block _ lb)) ?_
      intro a' w2 hw2 ha
      subst ha
      simp only [Act.put, List.setIfInBounds_toArray, List.set_cons_zero, List.set_cons_succ]
      obtain ⟨bx2, b2⟩ := RowT.bx_is RD wr t
      rw [show wr.alloc (.cells (RD.c t).toArray RD.e) = w2 from hw2.symm] at bx2 b2
      clear hw2
      have bel2 := bel.trans (b2.mono zb)
      have ow2 := ow.below b2
      obtain ⟨la, lc, e5⟩ := ow.form
      obtain ⟨ln, hln⟩ : ∃ ln, l.length = ln := ⟨_, rfl⟩
      rw [hln] at e5
      have hld : ln + dd = t.1 := by omega
      have ht2 := ht.2
      have E5 := hidMk e5
      have HLD := hidMk hld
      go_upto_region 7 with fail
      rw [E5.out]
      refine wi7 (bx := wr.heap.size) (la := la) (ln := ln) (lc := lc) (d := dd) (t := t) _ w2 _ rfl rfl rfl bx2.rng HLD.out (by omega) ?_
      intro a' w3 hw3 ha
      subst ha
      obtain rfl : w2 = w3 := hw3.symm
      simp only [Act.put, List.setIfInBounds_toArray, List.set_cons_zero, List.set_cons_succ]
      have bx2d : RD.Bx w2.drew wr.heap.size t := bx2
      have ptk : (r.take dd).length = dd := by rw [List.length_take]; omega
      have SL := hidMk (fun W => RowT.sl_upto RN_is ra (n := rn) (c := rc) (m := dd) (by omega) W)
      rw [E5.out] at ow2
      have hub : ∀ k, (Value.slice la ln lc).ownBlock = some k → w.heap.size ≤ k ∧ k < wr.heap.size := fun k hk => by rw [← E5.out] at hk; exact ⟨(ow.cells hk).1, ow.lt hk⟩
      obtain ⟨v1, sv1, u1, v2, sv2, u2, x1, x2, x3, y1, y2, y3, e1, s1, e2, s2, e3, bx3, f1, r1, f2, r2, f3, bxy3, F1, F2⟩ := app_two (w := w2.drew) (base := w.heap.size) (bx := wr.heap.size) (u := .slice la ln lc) (l := l) (t := t) (pa := ra) (pc := rc) (M := r.take dd) ow2 bx2d (fun e => by have := (hub _ e).2; omega) ((rat.below bel2).take dd) (fun x hx => rok x (List.mem_of_mem_take hx)) ht (by rw [ptk]; omega) bel2.size
      rw [ptk] at e1 f2
      obtain ⟨pa, pc, es, hp, hpc⟩ := RowT.sl_from (c := rc) RN_is rat (by omega) (show dd ≤ r.length by omega)
      rw [hrn] at es hpc
      have ES := hidMk es
      have NX : ∀ u' W, RN.Own W w.heap.size u' (l ++ r.take dd ++ [t.2]) ∧ Below w.heap.size w2.drew W → Hid (RN.Own W w.heap.size u' (l ++ r.take dd ++ [t.2]) ∧ Below w.heap.size w W ∧ RN.At w pa (r.drop dd) ∧ (r.drop dd).length = rn - dd ∧ rn - dd ≤ pc ∧ (∀ x ∈ r.drop dd, x.ok) ∧ Rg.wi (l ++ r.take dd ++ [t.2]) (r.drop dd) (T.drop (j + 1)) = G ∧ Rg.WiOk (l ++ r.take dd ++ [t.2]) (r.drop dd) (T.drop (j + 1)) ∧ (l ++ r.take dd ++ [t.2]).length + (rn - dd) + m = n + m + (j + 1)) := fun u' W h => ⟨h.1, bel2.drew.trans h.2, hp, by rw [List.length_drop, hrn], hpc, fun x hx => rok x (List.mem_of_mem_drop hx), wi2, k3, by rw [List.length_append, List.length_append, ptk]; simp; omega⟩
      have N1 := NX _ _ F1
      have N2 := NX _ _ F2
      have HE1 := hidMk (And.intro e1 (And.intro e2 e3))
      have HE2 := hidMk (And.intro f1 (And.intro f2 f3))
      have HS1 := hidMk (And.intro s1 (And.intro s2 bx3))
      have HS2 := hidMk (And.intro r1 (And.intro r2 bxy3))
      clear HI ow rat rok wi wok k3 wi2 NX F1 F2 e1 e2 e3 f1 f2 f3 s1 s2 bx3 r1 r2 bxy3 es hp hpc E5 HLD hub ow2 dc htj hr ptk
      go_upto_region 8 with fail
      refine wi8 (bx := wr.heap.size) (d := dd) (t := t) (pv := .slice ra dd rc) (v1 := v1) (sv1 := sv1) (u1 := u1) (v2 := v2) (sv2 := sv2) (u2 := u2) (w1 := x1) (w2 := x2) (w3 := x3) (y1 := y1) (y2 := y2) (y3 := y3) _ w2 _ rfl rfl rfl rfl rfl ht bx2d.rng SL.out HE1.out.1 HS1.out.1 HE1.out.2.1 HS1.out.2.1 HE1.out.2.2 HS1.out.2.2.rng HE2.out.1 HS2.out.1 HE2.out.2.1 HS2.out.2.1 HE2.out.2.2 HS2.out.2.2.rng ?_ ?_
      · intro a' w4 hw4 ha
        subst ha
        obtain rfl : x3 = w4 := hw4.symm
        simp only [Act.put, List.setIfInBounds_toArray, List.set_cons_zero, List.set_cons_succ]
        clear HE1 HE2 HS1 HS2 N2
        go_upto_region 9 with fail
        refine wi9 (d := dd) (pv := .slice pa (rn - dd) pc) _ x3 _ rfl rfl rfl (ES.out x3) ?_
        intro a' w4 hw4 ha
        subst ha
        obtain rfl : x3 = w4 := hw4.symm
        simp only [Act.put, List.setIfInBounds_toArray, List.set_cons_zero, List.set_cons_succ]
        clear ES SL
        go_wp2
        rw [show ((j : Int) + 1) = ((j + 1 : Nat) : Int) by omega]
        refine ⟨⟨j + 1, _, _, pa, rn - dd, pc, rfl, hj, rfl, N1⟩, ?_⟩
        show m - ((j + 1 : Nat) : Int).toNat < m - (j : Int).toNat
        omega
      · intro a' w4 hw4 ha
        subst ha
        obtain rfl : y3 = w4 := hw4.symm
        simp only [Act.put, List.setIfInBounds_toArray, List.set_cons_zero, List.set_cons_succ]
        clear HE1 HE2 HS1 HS2 N1
        go_upto_region 9 with fail
        refine wi9 (d := dd) (pv := .slice pa (rn - dd) pc) _ y3 _ rfl rfl rfl (ES.out y3) ?_
        intro a' w4 hw4 ha
        subst ha
        obtain rfl : y3 = w4 := hw4.symm
        simp only [Act.put, List.setIfInBounds_toArray, List.set_cons_zero, List.set_cons_succ]
        clear ES SL
        go_wp2
        rw [show ((j : Int) + 1) = ((j + 1 : Nat) : Int) by omega]
        refine ⟨⟨j + 1, _, _, pa, rn - dd, pc, rfl, hj, rfl, N2⟩, ?_⟩
        show m - ((j + 1 : Nat) : Int).toNat < m - (j : Int).toNat
        omega
    · obtain rfl : m = j := by omega
      obtain ⟨ow, bel, rat, hrn, hrc, rok, wi, wok, sz⟩ := HI.out
      rw [show T.drop m = [] from List.drop_of_length_le (by rw [HM.out]; omega)] at wi
      have wi2 : l ++ r = G := wi
      obtain ⟨u2, w3, e3, o3, g3, q3⟩ := RowT.run_app RN_is wr w.heap.size _ l ra r rc ow (rat.below bel) rok (by rw [hrn]; unfold maxLen; omega) (by rw [hrn]; show _ * 80 ≤ _; omega) bel.size
      rw [hrn] at e3
      rw [wi2] at o3
      have bel3 : Below w.heap.size w w3 := bel.grown g3 bel.size (fun k hk => (ow.cells hk).1)
      obtain ⟨la, lc, e5⟩ := ow.form
      obtain ⟨ln, hln⟩ : ∃ ln, l.length = ln := ⟨_, rfl⟩
      rw [hln] at e5
      rw [e5] at e3
      have E5 := hidMk e5
      have E3 := hidMk e3
      have FN : Hid (RN.Own w3 w.heap.size u2 G ∧ Below w.heap.size w w3) := ⟨o3, bel3⟩
      clear HI ow rat rok wi wok wi2 e3 o3 g3 q3 bel3 e5 hln
      have EX := E5.out
      subst EX
      go_wp2_with (first
        | (refine wpList_run rfl (exec_append (xv := .slice la ln lc) (yv := .slice ra rn rc) (v := u2) (w2 := w3) rfl rfl rfl E3.out) ?_)
        | fail)
      go_ret
      exact ⟨_, rfl, FN.out.1, FN.out.2⟩
structure Turns (w : World) (F : Nat) (caps : Array Value) (gv : VaV → VaV) : Prop where
  en : ∀ vs (W : World), (callFunc F vs).run Tryd.prog W = .ok (.enter F vs) W
  an : ∀ W, Below w.heap.size w W → ∀ x : VaV, x.ok → Calls Tryd.prog F (#[x.v] ++ caps) W fun e W' => e = .returned (gv x).v ∧ Below W.heap.size W W'
  ok : ∀ x : VaV, x.ok → (gv x).ok
def chg (gv : VaV → VaV) (y e : EnV) : EnV := { y with v := gv e.v }
theorem changed_nil (a ta : Option Addr) (n c tc : Nat) (f : Value) (w : World) : Calls Tryd.prog 55 #[.slice a n c, .slice ta 0 tc, f] w fun e w' => e = .returned (.slice a n c) ∧ w' = w := by
  go_enter Tryd.func55, Tryd.ntmps55
  go_wp2
  go_ret
  exact ⟨rfl, rfl⟩
theorem changed_any {w : World} {base : Nat} {lv : Value} {L : List EnV} (hL : RN.Lo w base lv L) (ok : ∀ x ∈ L, x.ok) (hn : L.length ≤ 2500000000000) {ta : Option Addr} {tc : Nat} {T : List (Nat × EnV)} (hT : RD.At w ta T) (okT : ∀ t ∈ T, RD.ok t) (hlt : ∀ t ∈ T, t.1 < L.length) (hml : T.length ≤ 2500000000000) (hne : T ≠ []) {F : Nat} {caps : Array Value} {gv : VaV → VaV} (hG : Turns w F caps gv) :
    Calls Tryd.prog 55 #[lv, .slice ta T.length tc, .func (.func F) #[] caps] w fun e w' => ∃ v, e = .returned v ∧ RN.Own w' w.heap.size v (Rg.ch (chg gv) L T) ∧ Below w.heap.size w w' := by
  have hm0 : 0 < T.length := List.length_pos_iff.2 hne
  obtain ⟨a, c, rfl, hat, hc, hcm, _⟩ := hL.open RN_is ok
  have CL := hidMk (clone_any hL ok hn)
  obtain ⟨n, hnn⟩ : ∃ n, L.length = n := ⟨_, rfl⟩
  obtain ⟨m, hmm⟩ : ∃ m, T.length = m := ⟨_, rfl⟩
  have HN := hidMk hnn
  have HM := hidMk hmm
  have HLT := hidMk hlt
  rw [hnn] at hn CL ⊢
  rw [hmm] at hm0 hml ⊢
  have HT := hidMk hT
  have HK := hidMk ok
  have HKT := hidMk okT
  have HG := hidMk hG
  obtain ⟨G, hGG⟩ : ∃ G, Rg.ch (chg gv) L T = G := ⟨_, rfl⟩
  have HGG := hidMk hGG
  rw [hGG]
  clear hT ok okT hne hnn hmm hGG hlt hG hat hc hcm hL
  go_enter Tryd.func55, Tryd.ntmps55
  have hm1 : ((m : Int) == 0) = false := by simp; omega
  go_upto_region 4 with (first
    | (go_at_call 60; refine CL.out.mono ?_; rintro e w1 ⟨v, rfl, ov, bv⟩; have OV := hidMk (And.intro ov bv); clear ov bv CL)
    | fail)
  clear hm1
  obtain ⟨va, vc, ev⟩ := OV.out.1.form
  rw [HN.out] at ev
  subst ev
  go_wp2
  go_loopw [17] (fun v17 wr => ∃ (j : Nat) (cur : List EnV), v17 = .int .i64 (j : Int) ∧ j ≤ m ∧ Hid (RN.Own wr w.heap.size (.slice va n vc) cur ∧ Below w.heap.size w wr ∧ Rg.ch (chg gv) cur (T.drop j) = G ∧ cur.length = n ∧ ∀ x ∈ cur, x.ok)) (fun v17 wr => m - (match v17 with | .int _ i => i.toNat | _ => 0))
  case atStart => exact ⟨0, L, rfl, Nat.zero_le _, OV.out.1, OV.out.2, by rw [List.drop_zero]; exact HGG.out, HN.out, HK.out⟩
  case round =>
    clear OV
    obtain ⟨j, cur, rfl, hjm, HI⟩ := hrel
    by_cases hj : j < m
    · obtain ⟨t, htj⟩ : ∃ o, T[j]? = some o := ⟨_, List.getElem?_eq_getElem (by rw [HM.out]; exact hj)⟩
      have ht := HKT.out t (List.mem_of_getElem? htj)
      have hlt := HLT.out t (List.mem_of_getElem? htj)
      rw [HN.out] at hlt
      obtain ⟨tb, to, rfl, lb, hr⟩ := HT.out.at htj
      have dc := drop_cons htj
      obtain ⟨ow, bel, hch, hcl, cok⟩ := HI.out
      rw [dc] at hch
      obtain ⟨y, hy⟩ : ∃ y, cur[t.1]? = some y := ⟨_, List.getElem?_eq_getElem (by rw [hcl]; exact hlt)⟩
      have hch2 : Rg.ch (chg gv) (cur.set t.1 (chg gv y t.2)) (T.drop (j + 1)) = G := by
        rw [Rg.ch, hy] at hch
        exact hch
      have hyo := cok y (List.mem_of_getElem? hy)
      have hgo : (gv t.2.v).ok := HG.out.ok _ ht.1.w
      have zb := bel.size
      go_upto_region 6 with fail
      refine ch6 (tb := tb) (to := to) (m := m) (tc := tc) (j := j) (t := t) _ wr _ rfl rfl rfl ht hj (by omega) (rangeAt_keep hr (bel.block _ lb)) ?_
      intro a' w2 hw2 ha
      subst ha
      simp only [Act.put, List.setIfInBounds_toArray, List.set_cons_zero, List.set_cons_succ]
      obtain ⟨bx2, b2⟩ := RowT.bx_is RD wr t
      rw [show wr.alloc (.cells (RD.c t).toArray RD.e) = w2 from hw2.symm] at bx2 b2
      clear hw2
      have bel2 := bel.trans (b2.mono zb)
      have hub : ∀ k, (Value.slice va n vc).ownBlock = some k → k < wr.heap.size := fun k hk => ow.lt hk
      obtain ⟨g, cap, eg, _⟩ := RowT.own_seg RN_is ow cok hy (x := chg gv y t.2) ⟨hyo.i, hgo⟩ (q := 33) (n := 4) (gv t.2.v).c rfl (by
        show y.id.c ++ (gv t.2.v).c = _
        have l := IdK.len hyo.i
        show _ = (y.id.c ++ y.v.c).take 33 ++ (gv t.2.v).c ++ (y.id.c ++ y.v.c).drop (33 + 4)
        rw [← l, List.take_left, List.drop_of_length_le (by simp [VaV.len]), List.append_nil]) (by decide) (gv t.2.v).one szVa (v := (gv t.2.v).v) rfl
      rw [hcl] at eg
      injection eg with ea _ ec
      subst ea
      subst ec
      have CF : Hid (Calls Tryd.prog F (#[t.2.v.v] ++ caps) w2.drew fun e w' => e = .returned (gv t.2.v).v ∧ w'.rangeAt wr.heap.size 0 (sdC t) ∧ ∃ w3, (Instr.storeAt 42 (.pointer (some ⟨g, 0 + 37 * t.1 + 33, none⟩)) (gv t.2.v).v).run Tryd.prog w' = .ok () w3 ∧ w3.rangeAt wr.heap.size 0 (sdC t) ∧ (RN.Own w3 w.heap.size (.slice (some ⟨g, 0, none⟩) n vc) (cur.set t.1 (chg gv y t.2)) ∧ Below w.heap.size w w3)) := by
        refine (HG.out.an w2.drew bel2.drew t.2.v ht.1.w).mono ?_
        rintro e w' ⟨rfl, b'⟩
        have bel' := bel2.drew.trans (b'.mono bel2.drew.size)
        have bx' := (show RD.Bx w2.drew wr.heap.size t from bx2).below b'
        have ow' : RN.Own w' w.heap.size (.slice (some ⟨g, 0, none⟩) n vc) cur := (ow.below b2).below ((Below.refl w2.heap.size w2).drew.trans b')
        obtain ⟨g', cap', eg', _, w3, es, o3, t3, z3⟩ := RowT.own_seg RN_is ow' cok hy (x := chg gv y t.2) ⟨hyo.i, hgo⟩ (q := 33) (n := 4) (gv t.2.v).c rfl (by
          show y.id.c ++ (gv t.2.v).c = _
          have l := IdK.len hyo.i
          show _ = (y.id.c ++ y.v.c).take 33 ++ (gv t.2.v).c ++ (y.id.c ++ y.v.c).drop (33 + 4)
          rw [← l, List.take_left, List.drop_of_length_le (by simp [VaV.len]), List.append_nil]) (by decide) (gv t.2.v).one szVa (v := (gv t.2.v).v) rfl
        injection eg' with ea' _ _
        injection ea' with ea'
        injection ea' with ea' _ _
        subst ea'
        refine ⟨rfl, bx'.rng, w3, by rw [Nat.zero_add]; exact es, ?_, o3, bel'.trans (t3.below bel'.size (fun k hk => (ow'.cells hk).1))⟩
        have bx3 : RD.Bx w3 wr.heap.size t := (t3.block _ (Array.getElem?_eq_some_iff.1 bx').1 (fun e => by have := hub _ e; omega)).trans bx'
        exact bx3.rng
      have NX := hidMk (And.intro hch2 (And.intro (show (cur.set t.1 (chg gv y t.2)).length = n by rw [List.length_set]; exact hcl) (show ∀ x ∈ cur.set t.1 (chg gv y t.2), x.ok from fun x hx => by
        rcases List.mem_or_eq_of_mem_set hx with q | q
        · exact cok x q
        · rw [q]; exact ⟨hyo.i, hgo⟩)))
      have bx2d : RD.Bx w2.drew wr.heap.size t := bx2
      have EN := hidMk HG.out.en
      clear HI ow hch hch2 cok dc htj hr hub
      go_upto_region 7 with fail
      refine ch7 (bx := wr.heap.size) (F := F) (eb := g) (eo := 0) (n := n) (c := vc) (caps := caps) (t := t) (x := gv t.2.v) (fun w' => RN.Own w' w.heap.size (.slice (some ⟨g, 0, none⟩) n vc) (cur.set t.1 (chg gv y t.2)) ∧ Below w.heap.size w w') _ w2 _ rfl rfl rfl rfl ht hlt (by omega) bx2d.rng EN.out CF.out ?_
      intro a' w4 h4 ha
      subst ha
      simp only [Act.put, List.setIfInBounds_toArray, List.set_cons_zero, List.set_cons_succ]
      have H4 := hidMk h4
      clear CF EN h4
      go_wp2
      rw [show ((j : Int) + 1) = ((j + 1 : Nat) : Int) by omega]
      refine ⟨⟨j + 1, _, rfl, hj, H4.out.1, H4.out.2, NX.out.1, NX.out.2.1, NX.out.2.2⟩, ?_⟩
      show m - ((j + 1 : Nat) : Int).toNat < m - (j : Int).toNat
      omega
    · obtain rfl : m = j := by omega
      obtain ⟨ow, bel, hch, hcl, cok⟩ := HI.out
      rw [show T.drop m = [] from List.drop_of_length_le (by rw [HM.out]; omega)] at hch
      have hch2 : cur = G := hch
      rw [hch2] at ow
      have FN := hidMk (And.intro ow bel)
      clear HI ow bel hch hch2 hcl cok
      go_wp2
      go_ret
      exact ⟨_, rfl, FN.out.1, FN.out.2⟩
structure RS (rb mb kb pb : Nat) (p : PlK) (W : World) : Prop where
  c0 : W.cell? ⟨rb, 0, none⟩ = some (.map (some mb))
  c1 : W.cell? ⟨rb, 1, none⟩ = some (.map (some kb))
  pl : W.rangeAt pb 0 p.c
section
variable {rb mb kb pb : Nat} {p : PlK} {W : World}
theorem RS.l0 (h : RS rb mb kb pb p W) : (Instr.loadAt 81 (.pointer (some ⟨rb, 0 + 0, none⟩))).run Tryd.prog W = .ok (.map (some mb)) W := by
  have := h.c0
  go_simp
theorem RS.l1 (h : RS rb mb kb pb p W) : (Instr.loadAt 82 (.pointer (some ⟨rb, 0 + 1, none⟩))).run Tryd.prog W = .ok (.map (some kb)) W := by
  have := h.c1
  go_simp
theorem RS.lp (h : RS rb mb kb pb p W) (hp : p.ok) : (Instr.loadAt 52 (.pointer (some ⟨pb, 0, none⟩))).run Tryd.prog W = .ok p.v W := ld_pl hp h.pl
theorem RS.lo (h : RS rb mb kb pb p W) (hp : p.ok) : (Instr.loadAt 38 (.pointer (some ⟨pb, 0 + 0, none⟩))).run Tryd.prog W = .ok p.o.v W := pl_o hp h.pl
theorem RS.lk (h : RS rb mb kb pb p W) (hp : p.ok) : (Instr.loadAt 9 (.pointer (some ⟨pb, 0 + 33, none⟩))).run Tryd.prog W = .ok (.string p.k) W := pl_k hp h.pl
theorem RS.la (h : RS rb mb kb pb p W) (hp : p.ok) : (Instr.loadAt 38 (.pointer (some ⟨pb, 0 + 34, none⟩))).run Tryd.prog W = .ok p.a.v W := pl_a hp h.pl
end
theorem RS.drew {rb mb kb pb : Nat} {p : PlK} {W : World} (h : RS rb mb kb pb p W) : RS rb mb kb pb p W.drew := ⟨h.c0, h.c1, h.pl⟩
theorem RS.keep {rb mb kb pb : Nat} {p : PlK} {W W' : World} (h : RS rb mb kb pb p W) (h1 : W'.heap[rb]? = W.heap[rb]?) (h2 : W'.heap[pb]? = W.heap[pb]?) : RS rb mb kb pb p W' := ⟨(World.cell?_of_block (a := ⟨rb, 0, none⟩) h1).trans h.c0, (World.cell?_of_block (a := ⟨rb, 1, none⟩) h1).trans h.c1, rangeAt_keep h.pl h2⟩
theorem mk_map (t : TypeId) (w : World) : (Instr.makeMap t none).run Tryd.prog w = .ok (.map (some w.heap.size)) (w.alloc (.map #[] 0)) := by
  simp only [Instr.makeMap, newObj, Sem.run_bind, Sem.run_pure, Result.andThen_ok]
  rfl
theorem build_id (w : World) : (Instr.build 38 #[]).run Tryd.prog w = .ok zId.v w := by kernel_rfl
theorem build_un (w : World) : (Instr.build 99 #[]).run Tryd.prog w = .ok (.agg #[]) w := by kernel_rfl
theorem guard_idR (x y : Operand) (a b : IdK) (w : World) (op : BinOp) : (eqGuard op 38 x y a.v b.v).run Tryd.prog w = .ok () w := by
  unfold eqGuard
  cases op <;> simp [IdK.v]
theorem eql_idR (a b : IdK) (ha : a.ok) (hb : b.ok) (w : World) : (binOp .eql 38 a.v b.v).run Tryd.prog w = .ok (.bool (decide (a = b))) w := by
  have h := eqId 9997 a b ha hb w
  have : (Op.equal 38 a.v b.v).run Tryd.prog w = .ok (decide (a = b)) w := h
  unfold IdK.v at *
  simp only [binOp]
  simp [this]
theorem neq_idR (a b : IdK) (ha : a.ok) (hb : b.ok) (w : World) : (binOp .neq 38 a.v b.v).run Tryd.prog w = .ok (.bool (decide (a ≠ b))) w := by
  have h := eqId 9997 a b ha hb w
  have : (Op.equal 38 a.v b.v).run Tryd.prog w = .ok (decide (a = b)) w := h
  unfold IdK.v at *
  simp only [binOp]
  simp [this]
section
variable {w : World} {a : Act} {o : Oper}
theorem ex_neqI {x y : Operand} {p q : IdK} {r : Bool} (ho : o.op = .binOp .neq 38 x y 38) (hx : a.eval x = p.v) (hy : a.eval y = q.v) (hp : p.ok) (hq : q.ok) (hr : decide (p ≠ q) = r) : (execOp a.eval o).run Tryd.prog w = .ok (.value (.bool r)) w := by
  subst hr
  exact exec_binOp ho hx hy (guard_idR _ _ _ _ _ _) (neq_idR p q hp hq w)
theorem guard_im (x y : Operand) (p q : Option Nat) (w : World) (op : BinOp) : (eqGuard op 97 x y (.map p) (.map q)).run Tryd.prog w = .ok () w := by
  unfold eqGuard
  cases op <;> simp
theorem eqm0 (w : World) : (binOp .eql 97 (.map none) (.map none)).run Tryd.prog w = .ok (.bool true) w := by kernel_rfl
theorem eqm1 (b : Nat) (w : World) : (binOp .eql 97 (.map (some b)) (.map none)).run Tryd.prog w = .ok (.bool false) w := by kernel_rfl
theorem ex_eqm {x y : Operand} {m : Option Nat} {r : Bool} (ho : o.op = .binOp .eql 97 x y 97) (hx : a.eval x = .map m) (hy : a.eval y = .map none) (hr : m.isNone = r) : (execOp a.eval o).run Tryd.prog w = .ok (.value (.bool r)) w := by
  subst hr
  cases m with
  | none => exact exec_binOp ho hx hy (guard_im _ _ _ _ _ _) (eqm0 w)
  | some b => exact exec_binOp ho hx hy (guard_im _ _ _ _ _ _) (eqm1 b w)
theorem ex_eq0 {x y : Operand} {n : Nat} {r : Bool} (ho : o.op = .binOp .eql 3 x y 3) (hx : a.eval x = .int .i64 (n : Int)) (hy : a.eval y = .int .i64 0) (hr : decide (n = 0) = r) : (execOp a.eval o).run Tryd.prog w = .ok (.value (.bool r)) w := by
  refine exec_binOp ho hx hy ?_ ?_
  · kernel_rfl
  · subst hr
    go_simp
    first | rfl | (congr 2; rw [Bool.eq_iff_iff]; simp)
theorem exec_bbk {x y : Operand} {u v : Value} (ho : o.op = .build 111 #[(0, x), (1, y)]) (hx : a.eval x = u) (hy : a.eval y = v) (hl : (Instr.build 111 #[(0, u), (1, v)]).run Tryd.prog w = .ok (.agg #[u, v]) w) : (execOp a.eval o).run Tryd.prog w = .ok (.value (.agg #[u, v])) w := exec_build ho (by simp [hx, hy]) hl
theorem exec_boxE {P : Program} {w w2 : World} {a : Act} {o : Oper} {t : TypeId} {x : Operand} {v u : Value} (ho : o.op = .box t x) (hx : a.eval x = v) (hl : (Instr.box t v).run P w = .ok u w2) : (execOp a.eval o).run P w = .ok (.value u) w2 := by
  unfold execOp; simp only [ho, hx, Sem.run_bind, hl, Sem.run_pure, Result.andThen_ok]
end
theorem build_bk (p : Option Addr) (F : Nat) (c : Array Value) (w : World) : (Instr.build 111 #[(0, .pointer p), (1, .func (.func F) #[] c)]).run Tryd.prog w = .ok (.agg #[.pointer p, .func (.func F) #[] c]) w := by kernel_rfl
theorem run_box {P : Program} (t : TypeId) (v : Value) (w : World) : (Instr.box t v).run P w = .ok (.pointer (some ⟨w.heap.size, 0, none⟩)) (w.alloc (.cells v.cells t)) := by
  simp only [Instr.box, newVar, newRow, newObj, Sem.run_bind, Sem.run_pure, Result.andThen_ok]
  rfl
theorem bits_runR (b : Nat) (w : World) : (callFunc 78 #[.float .f64 b]).run Tryd.prog w = .ok (.value (.int .u64 b)) w := by
  rw [run_callFunc_extern Tryd.func78 (by kernel_rfl) (by kernel_rfl) (by kernel_rfl) (e := Extern.MathFloatBits.float64bits) (by kernel_rfl)]
  rfl
theorem exec_ext1 {w : World} {a : Act} {o : Oper} {F : Nat} {ts : Array TypeId} {x1 : Operand} {v1 v : Value} (ho : o.op = .call { callee := .value (.func F), args := #[x1], argTypes := ts }) (h1 : a.eval x1 = v1) (hf : (callFunc F #[v1]).run Tryd.prog w = .ok (.value v) w) : (execOp a.eval o).run Tryd.prog w = .ok (.value v) w := by
  have e0 : a.eval (.func F) = .func (.func F) #[] #[] := rfl
  unfold execOp; simp [ho, resolve, invoke, h1, e0, Deferred.ofValue, Result.andThen, hf]
theorem ex_eqn {w : World} {a : Act} {o : Oper} {x y : Operand} {n : Int} (ho : o.op = .binOp .eql 2 x y 2) (hx : a.eval x = .int .i64 n) (hy : a.eval y = .int .i64 0) : (execOp a.eval o).run Tryd.prog w = .ok (.value (.bool (n == 0))) w := by
  refine exec_binOp ho hx hy ?_ ?_
  · kernel_rfl
  · go_simp
theorem ex_equ {w : World} {a : Act} {o : Oper} {x y : Operand} {n : Nat} (ho : o.op = .binOp .eql 129 x y 129) (hx : a.eval x = .int .u64 (n : Int)) (hy : a.eval y = .int .u64 0) : (execOp a.eval o).run Tryd.prog w = .ok (.value (.bool (n == 0))) w := by
  refine exec_binOp ho hx hy ?_ ?_
  · kernel_rfl
  · have : ((n : Int) == 0) = (n == 0) := by rw [Bool.eq_iff_iff]; simp
    rw [← this]
    go_simp
theorem ex_eqs {w : World} {a : Act} {o : Oper} {x y : Operand} {t : ByteArray} (ho : o.op = .binOp .eql 9 x y 9) (hx : a.eval x = .string t) (hy : a.eval y = .string ⟨#[]⟩) : (execOp a.eval o).run Tryd.prog w = .ok (.value (.bool (t.toList == ([] : List UInt8)))) w := by
  refine exec_binOp ho hx hy ?_ ?_
  · kernel_rfl
  · have e : (⟨#[]⟩ : ByteArray).toList = [] := by rw [ByteArray.toList_eq]
    go_simp
theorem ex_addn {w : World} {a : Act} {o : Oper} {x y : Operand} {m n : Int} (ho : o.op = .binOp .add 2 x y 2) (hx : a.eval x = .int .i64 m) (hy : a.eval y = .int .i64 n) : (execOp a.eval o).run Tryd.prog w = .ok (.value (.int .i64 (IntKind.i64.wrap (m + n)))) w := by
  refine exec_binOp ho hx hy ?_ ?_
  · kernel_rfl
  · kernel_rfl
def right1_o0 : Oper := ⟨some 6, .fieldAddr 42 (.tmp 1) 1, 0, "value.go:25", #[], none⟩
def right1_o1 : Oper := ⟨some 7, .load 2 (.tmp 6), 2, "value.go:25", #[⟨0, .data⟩], none⟩
def right1_o2 : Oper := ⟨some 8, .binOp BinOp.eql 2 (.tmp 7) (Operand.const (Value.int IntKind.i64 0)) 2, 4, "value.go:25", #[⟨1, .data⟩], none⟩
def right1_o3 : Oper := ⟨some 9, .fieldAddr 42 (.tmp 1) 2, 0, "value.go:25", #[], none⟩
def right1_o4 : Oper := ⟨some 10, .load 40 (.tmp 9), 40, "value.go:25", #[⟨3, .data⟩], none⟩
def right1_o5 : Oper := ⟨some 11, .call { callee := Callee.value (Operand.func 78), args := #[.tmp 10], argTypes := #[40] }, 129, "value.go:25", #[⟨4, .data⟩], none⟩
def right1_o6 : Oper := ⟨some 12, .binOp BinOp.eql 129 (.tmp 11) (Operand.const (Value.int IntKind.u64 0)) 129, 4, "value.go:25", #[⟨5, .data⟩, { on := 10, ground := Ground.gcOnly Departure.lateStores }], none⟩
def right1_o7 : Oper := ⟨some 13, .fieldAddr 42 (.tmp 1) 3, 0, "value.go:25", #[{ on := 11, ground := Ground.gcOnly Departure.lateStores }], none⟩
def right1_o8 : Oper := ⟨some 14, .load 9 (.tmp 13), 9, "value.go:25", #[⟨7, .data⟩, { on := 11, ground := Ground.gcOnly Departure.lateStores }], none⟩
def right1_o9 : Oper := ⟨some 15, .binOp BinOp.eql 9 (.tmp 14) (Operand.const (Value.string { data := #[] })) 9, 4, "value.go:25", #[⟨8, .data⟩, { on := 11, ground := Ground.gcOnly Departure.lateStores }], none⟩
def right1_o10 : Oper := ⟨some 3, .assign (.tmp 8), 4, "value.go:25", #[⟨2, .data⟩, ⟨5, .chain⟩, ⟨0, .phase⟩, ⟨1, .phase⟩, ⟨2, .phase⟩, { on := 3, ground := Ground.textOnly Departure.lateStores }, { on := 4, ground := Ground.textOnly Departure.lateStores }, { on := 5, ground := Ground.textOnly Departure.lateStoresUnsure }, { on := 6, ground := Ground.textOnly Departure.lateStores }, { on := 7, ground := Ground.textOnly Departure.lateStores }, { on := 8, ground := Ground.textOnly Departure.lateStores }, { on := 9, ground := Ground.textOnly Departure.lateStores }], none⟩
def right1_o11 : Oper := ⟨some 4, .assign (.tmp 12), 4, "value.go:25", #[⟨6, .data⟩, ⟨10, .chain⟩, ⟨0, .phase⟩, ⟨1, .phase⟩, ⟨2, .phase⟩, ⟨3, .phase⟩, ⟨4, .phase⟩, ⟨5, .phase⟩, ⟨6, .phase⟩, { on := 7, ground := Ground.textOnly Departure.lateStores }, { on := 8, ground := Ground.textOnly Departure.lateStores }, { on := 9, ground := Ground.textOnly Departure.lateStores }, ⟨10, .phase⟩], none⟩
def right1_o12 : Oper := ⟨some 5, .assign (.tmp 15), 4, "value.go:25", #[⟨9, .data⟩, ⟨11, .chain⟩, ⟨0, .phase⟩, ⟨1, .phase⟩, ⟨2, .phase⟩, ⟨3, .phase⟩, ⟨4, .phase⟩, ⟨5, .phase⟩, ⟨6, .phase⟩, ⟨7, .phase⟩, ⟨8, .phase⟩, ⟨9, .phase⟩, ⟨10, .phase⟩, ⟨11, .phase⟩], none⟩
def right1_ops : Array Oper := #[right1_o0, right1_o1, right1_o2, right1_o3, right1_o4, right1_o5, right1_o6, right1_o7, right1_o8, right1_o9, right1_o10, right1_o11, right1_o12]
theorem right1 {bx f : Nat} {n : Int} {t : ByteArray} (a : Act) (w : World) (Q : Exit → Act → World → Prop) (zz : a.tmps.size = 110)
    (t1 : a.tmps.getD 1 undef = .pointer (some ⟨bx, 0, none⟩))
    (V1 : ∀ W, W = w.drew → (Instr.loadAt 2 (.pointer (some ⟨bx, 0 + 1, none⟩))).run Tryd.prog W = .ok (.int .i64 n) W) (V2 : ∀ W, W = w.drew → (Instr.loadAt 40 (.pointer (some ⟨bx, 0 + 2, none⟩))).run Tryd.prog W = .ok (.float .f64 f) W) (V3 : ∀ W, W = w.drew → (Instr.loadAt 9 (.pointer (some ⟨bx, 0 + 3, none⟩))).run Tryd.prog W = .ok (.string t) W)
    (h : ∀ (a' : Act) (w' : World), w' = w.drew → a' = (((((((((((((a).put (some 6) (.pointer (some ⟨bx, 0 + 1, none⟩))).put (some 7) (.int .i64 n)).put (some 8) (.bool (n == 0))).put (some 9) (.pointer (some ⟨bx, 0 + 2, none⟩))).put (some 10) (.float .f64 f)).put (some 11) (.int .u64 (f : Int))).put (some 12) (.bool (f == 0))).put (some 13) (.pointer (some ⟨bx, 0 + 3, none⟩))).put (some 14) (.string t)).put (some 15) (.bool (t.toList == ([] : List UInt8)))).put (some 3) (.bool (n == 0))).put (some 4) (.bool (f == 0))).put (some 5) (.bool (t.toList == ([] : List UInt8))) → Q .normal a' w') :
    (Code.region 1 right1_ops true).wp Tryd.prog Q a w := by
  refine y0 (fun w' => w' = w.drew) (rfl) (fun hHeld => ?_)
  refine yv 0 rfl rfl (fun w1 hw => exec_fieldAt rfl (zi t1 rfl) (fg_42_1 _ _ _)) hHeld ?_
  refine yv 1 rfl rfl (fun w1 hw => exec_load rfl (zg zz rfl) (V1 _ hw)) hHeld ?_
  refine yv (v := .bool (n == 0)) 2 rfl rfl (fun w1 hw => ex_eqn rfl (zg zz rfl) rfl) hHeld ?_
  refine yv 3 rfl rfl (fun w1 hw => exec_fieldAt rfl (zi t1 rfl) (fg_42_2 _ _ _)) hHeld ?_
  refine yv 4 rfl rfl (fun w1 hw => exec_load rfl (zg zz rfl) (V2 _ hw)) hHeld ?_
  refine yv (v := .int .u64 (f : Int)) 5 rfl rfl (fun w1 hw => exec_ext1 rfl (zg zz rfl) (bits_runR _ _)) hHeld ?_
  refine yv (v := .bool (f == 0)) 6 rfl rfl (fun w1 hw => ex_equ rfl (zg zz rfl) rfl) hHeld ?_
  refine yv 7 rfl rfl (fun w1 hw => exec_fieldAt rfl (zi t1 rfl) (fg_42_3 _ _ _)) hHeld ?_
  refine yv 8 rfl rfl (fun w1 hw => exec_load rfl (zg zz rfl) (V3 _ hw)) hHeld ?_
  refine yv (v := .bool (t.toList == ([] : List UInt8))) 9 rfl rfl (fun w1 hw => ex_eqs rfl (zg zz rfl) rfl) hHeld ?_
  refine yv 10 rfl rfl (fun w1 hw => exec_assign rfl (zg zz rfl)) hHeld ?_
  refine yv 11 rfl rfl (fun w1 hw => exec_assign rfl (zg zz rfl)) hHeld ?_
  refine yv 12 rfl rfl (fun w1 hw => exec_assign rfl (zg zz rfl)) hHeld ?_
  exact ye rfl (h _ _ (hHeld) rfl)
def sum2_o0 : Oper := ⟨some 12, .fieldAddr 42 (.tmp 2) 1, 0, "value.go:119", #[], none⟩
def sum2_o1 : Oper := ⟨some 13, .load 2 (.tmp 12), 2, "value.go:119", #[⟨0, .data⟩], none⟩
def sum2_o2 : Oper := ⟨some 14, .move (.tmp 1), 2, "value.go:119", #[], none⟩
def sum2_o3 : Oper := ⟨some 15, .binOp BinOp.add 2 (.tmp 13) (.tmp 14) 2, 2, "value.go:119", #[⟨1, .data⟩, ⟨2, .data⟩], none⟩
def sum2_o4 : Oper := ⟨some 16, .fieldAddr 42 (.tmp 2) 1, 0, "value.go:119", #[⟨0, .phase⟩, ⟨1, .phase⟩, ⟨2, .phase⟩, ⟨3, .phase⟩], none⟩
def sum2_o5 : Oper := ⟨none, .store 2 (.tmp 16) (.tmp 15), 0, "value.go:119", #[⟨4, .data⟩, ⟨3, .data⟩, ⟨0, .phase⟩, ⟨1, .phase⟩, ⟨2, .phase⟩, ⟨3, .phase⟩], none⟩
def sum2_ops : Array Oper := #[sum2_o0, sum2_o1, sum2_o2, sum2_o3, sum2_o4, sum2_o5]
theorem sum2 {bx : Nat} {n m : Int} {w1 : World} (a : Act) (w : World) (Q : Exit → Act → World → Prop) (zz : a.tmps.size = 18)
    (t1 : a.tmps.getD 1 undef = .int .i64 n)
    (t2 : a.tmps.getD 2 undef = .pointer (some ⟨bx, 0, none⟩))
    (V1 : ∀ W, W = w → (Instr.loadAt 2 (.pointer (some ⟨bx, 0 + 1, none⟩))).run Tryd.prog W = .ok (.int .i64 m) W) (ES : (Instr.storeAt 2 (.pointer (some ⟨bx, 0 + 1, none⟩)) (.int .i64 (IntKind.i64.wrap (m + n)))).run Tryd.prog w = .ok () w1)
    (h : ∀ (a' : Act) (w' : World), w' = w1 → a' = (((((a).put (some 12) (.pointer (some ⟨bx, 0 + 1, none⟩))).put (some 13) (.int .i64 m)).put (some 14) (.int .i64 n)).put (some 15) (.int .i64 (IntKind.i64.wrap (m + n)))).put (some 16) (.pointer (some ⟨bx, 0 + 1, none⟩)) → Q .normal a' w') :
    (Code.region 2 sum2_ops false).wp Tryd.prog Q a w := by
  refine z0 rfl ?_
  refine zv rfl (exec_fieldAt rfl (zi t2 rfl) (fg_42_1 _ _ _)) ?_
  refine zv rfl (exec_load rfl (zg zz rfl) (V1 _ rfl)) ?_
  refine zv rfl (exec_move rfl (zi t1 rfl)) ?_
  refine zv (v := .int .i64 (IntKind.i64.wrap (m + n))) rfl (ex_addn rfl (zg zz rfl) (zg zz rfl)) ?_
  refine zv rfl (exec_fieldAt rfl (zi t2 rfl) (fg_42_1 _ _ _)) ?_
  refine zs rfl (exec_store rfl (zg zz rfl) (zg zz rfl) ES) ?_
  exact ze rfl (h _ _ (rfl) rfl)
def sum3_o0 : Oper := ⟨some 17, .load 42 (.tmp 2), 42, "value.go:121", #[], none⟩
def sum3_o1 : Oper := ⟨none, .store 42 (.tmp 4) (.tmp 17), 0, "value.go:121", #[⟨0, .data⟩, ⟨0, .phase⟩], none⟩
def sum3_ops : Array Oper := #[sum3_o0, sum3_o1]
theorem sum3 {bx rx : Nat} {x : VaV} {w1 : World} (a : Act) (w : World) (Q : Exit → Act → World → Prop) (zz : a.tmps.size = 18)
    (t2 : a.tmps.getD 2 undef = .pointer (some ⟨bx, 0, none⟩))
    (t4 : a.tmps.getD 4 undef = .pointer (some ⟨rx, 0, none⟩))
    (V1 : ∀ W, W = w → (Instr.loadAt 42 (.pointer (some ⟨bx, 0, none⟩))).run Tryd.prog W = .ok (x.v) W) (ES : (Instr.storeAt 42 (.pointer (some ⟨rx, 0, none⟩)) x.v).run Tryd.prog w = .ok () w1)
    (h : ∀ (a' : Act) (w' : World), w' = w1 → a' = (a).put (some 17) (x.v) → Q .normal a' w') :
    (Code.region 3 sum3_ops false).wp Tryd.prog Q a w := by
  refine z0 rfl ?_
  refine zv rfl (exec_load rfl (zi t2 rfl) (V1 _ rfl)) ?_
  refine zs rfl (exec_store rfl (zi t4 rfl) (zg zz rfl) ES) ?_
  exact ze rfl (h _ _ (rfl) rfl)
def adda1_o0 : Oper := ⟨some 4, .load 42 (.tmp 2), 42, "regs.go:78", #[], none⟩
def adda1_o1 : Oper := ⟨some 5, .load 2 (.tmp 1), 2, "regs.go:78", #[], none⟩
def adda1_o2 : Oper := ⟨some 6, .call { callee := Callee.value (Operand.func 57), args := #[.tmp 4, .tmp 5], argTypes := #[42, 2] }, 42, "regs.go:78", #[⟨0, .data⟩, ⟨1, .data⟩], none⟩
def adda1_o3 : Oper := ⟨none, .store 42 (.tmp 3) (.tmp 6), 0, "regs.go:78", #[⟨2, .data⟩, ⟨2, .chain⟩, ⟨0, .phase⟩, ⟨1, .phase⟩, ⟨2, .phase⟩], none⟩
def adda1_ops : Array Oper := #[adda1_o0, adda1_o1, adda1_o2, adda1_o3]
theorem adda1 {nb bx rx : Nat} {x y : VaV} {n : Int} (Fin : World → Prop) (a : Act) (w : World) (Q : Exit → Act → World → Prop) (zz : a.tmps.size = 7)
    (t1 : a.tmps.getD 1 undef = .pointer (some ⟨nb, 0, none⟩))
    (t2 : a.tmps.getD 2 undef = .pointer (some ⟨bx, 0, none⟩))
    (t3 : a.tmps.getD 3 undef = .pointer (some ⟨rx, 0, none⟩))
    (V1 : ∀ W, W = w → (Instr.loadAt 42 (.pointer (some ⟨bx, 0, none⟩))).run Tryd.prog W = .ok (x.v) W) (V2 : ∀ W, W = w → (Instr.loadAt 2 (.pointer (some ⟨nb, 0, none⟩))).run Tryd.prog W = .ok (.int .i64 n) W) (CS : Calls Tryd.prog 57 #[x.v, .int .i64 n] w fun e w' => e = .returned y.v ∧ ∃ w3, (Instr.storeAt 42 (.pointer (some ⟨rx, 0, none⟩)) y.v).run Tryd.prog w' = .ok () w3 ∧ Fin w3)
    (h : ∀ (a' : Act) (w' : World), Fin w' → a' = (((a).put (some 4) (x.v)).put (some 5) (.int .i64 n)).put (some 6) (y.v) → Q .normal a' w') :
    (Code.region 1 adda1_ops false).wp Tryd.prog Q a w := by
  refine z0 rfl ?_
  refine zv rfl (exec_load rfl (zi t2 rfl) (V1 _ rfl)) ?_
  refine zv rfl (exec_load rfl (zi t1 rfl) (V2 _ rfl)) ?_
  refine zc rfl (exec_c2 rfl (zg zz rfl) (zg zz rfl)) (CS) (fun e x2 hx => ?_)
  obtain ⟨rfl, w3, ES, HF⟩ := hx
  refine ⟨_, rfl, ?_⟩
  refine zs rfl (exec_store rfl (zi t3 rfl) (zg zz rfl) ES) ?_
  exact ze rfl (h _ _ (HF) rfl)
def addi1_o0 : Oper := ⟨some 3, .load 42 (.tmp 1), 42, "regs.go:80", #[], none⟩
def addi1_o1 : Oper := ⟨none, .store 42 (.tmp 2) (.tmp 3), 0, "regs.go:80", #[⟨0, .data⟩, ⟨0, .phase⟩], none⟩
def addi1_ops : Array Oper := #[addi1_o0, addi1_o1]
theorem addi1 {bx rx : Nat} {x : VaV} {w1 : World} (a : Act) (w : World) (Q : Exit → Act → World → Prop) (zz : a.tmps.size = 4)
    (t1 : a.tmps.getD 1 undef = .pointer (some ⟨bx, 0, none⟩))
    (t2 : a.tmps.getD 2 undef = .pointer (some ⟨rx, 0, none⟩))
    (V1 : ∀ W, W = w → (Instr.loadAt 42 (.pointer (some ⟨bx, 0, none⟩))).run Tryd.prog W = .ok (x.v) W) (ES : (Instr.storeAt 42 (.pointer (some ⟨rx, 0, none⟩)) x.v).run Tryd.prog w = .ok () w1)
    (h : ∀ (a' : Act) (w' : World), w' = w1 → a' = (a).put (some 3) (x.v) → Q .normal a' w') :
    (Code.region 1 addi1_ops false).wp Tryd.prog Q a w := by
  refine z0 rfl ?_
  refine zv rfl (exec_load rfl (zi t1 rfl) (V1 _ rfl)) ?_
  refine zs rfl (exec_store rfl (zi t2 rfl) (zg zz rfl) ES) ?_
  exact ze rfl (h _ _ (rfl) rfl)
def lay2_o0 : Oper := ⟨some 9, .move (.tmp 0), 26, "regs.go:106", #[], none⟩
def lay2_o1 : Oper := ⟨some 10, .nilCheck (.tmp 9), 0, "regs.go:106", #[⟨0, .data⟩], none⟩
def lay2_o2 : Oper := ⟨some 11, .fieldAddr 84 (.tmp 10) 0, 0, "regs.go:106", #[⟨1, .data⟩], none⟩
def lay2_o3 : Oper := ⟨some 12, .load 81 (.tmp 11), 81, "regs.go:106", #[⟨2, .data⟩], none⟩
def lay2_o4 : Oper := ⟨some 13, .load 52 (.tmp 4), 52, "regs.go:106", #[], none⟩
def lay2_o5 : Oper := ⟨none, .call { callee := Callee.builtin Builtin.delete, args := #[.tmp 12, .tmp 13], argTypes := #[81, 52] }, 0, "regs.go:106", #[⟨3, .data⟩, ⟨4, .data⟩], none⟩
def lay2_ops : Array Oper := #[lay2_o0, lay2_o1, lay2_o2, lay2_o3, lay2_o4, lay2_o5]
theorem lay2 {rb mb kb pb : Nat} {p : PlK} {w2 : World} (a : Act) (w : World) (Q : Exit → Act → World → Prop) (zz : a.tmps.size = 26)
    (t0 : a.tmps.getD 0 undef = .pointer (some ⟨rb, 0, none⟩))
    (t4 : a.tmps.getD 4 undef = .pointer (some ⟨pb, 0, none⟩))
    (hp : p.ok) (h0 : RS rb mb kb pb p w.drew) (ED : (Builtin.delete_ #[81, 52] 0 #[.map (some mb), p.v]).run Tryd.prog w.drew = .ok (.tuple #[]) w2)
    (h : ∀ (a' : Act) (w' : World), w' = w2 → a' = (((((a).put (some 9) (.pointer (some ⟨rb, 0, none⟩))).put (some 10) (.pointer (some ⟨rb, 0, none⟩))).put (some 11) (.pointer (some ⟨rb, 0 + 0, none⟩))).put (some 12) (.map (some mb))).put (some 13) (p.v) → Q .normal a' w') :
    (Code.region 2 lay2_ops true).wp Tryd.prog Q a w := by
  refine x0 5 (fun w' => RS rb mb kb pb p w' ∧ w' = w.drew) (⟨h0, rfl⟩) (fun hHeld => ?_)
  refine xv 0 rfl rfl (fun w1 hw => exec_move rfl (zi t0 rfl)) hHeld ?_
  refine xv 1 rfl rfl (fun w1 hw => exec_nilCheck rfl (zg zz rfl)) hHeld ?_
  refine xv 2 rfl rfl (fun w1 hw => exec_fieldAt rfl (zg zz rfl) (fg_84_0 _ _ _)) hHeld ?_
  refine xv 3 rfl rfl (fun w1 hw => exec_load rfl (zg zz rfl) (RS.l0 hw.1)) hHeld ?_
  refine xv 4 rfl rfl (fun w1 hw => exec_load rfl (zi t4 rfl) (RS.lp hw.1 hp)) hHeld ?_
  refine xd 5 rfl rfl (exec_delete rfl (zg zz rfl) (zg zz rfl) ED) (fun hne => absurd rfl hne) (fun _ => ?_)
  exact xe rfl (h _ _ (rfl) rfl)
def lay3_o0 : Oper := ⟨some 14, .move (.tmp 0), 26, "regs.go:107", #[], none⟩
def lay3_o1 : Oper := ⟨some 15, .load 52 (.tmp 4), 52, "regs.go:107", #[], none⟩
def lay3_o2 : Oper := ⟨some 16, .call { callee := Callee.value (Operand.func 71), args := #[.tmp 14, .tmp 15], argTypes := #[26, 52] }, 0, "regs.go:107", #[⟨0, .data⟩, ⟨1, .data⟩], none⟩
def lay3_ops : Array Oper := #[lay3_o0, lay3_o1, lay3_o2]
theorem lay3 {rb mb kb pb : Nat} {p : PlK} (Fin : World → Prop) (a : Act) (w : World) (Q : Exit → Act → World → Prop) (zz : a.tmps.size = 26)
    (t0 : a.tmps.getD 0 undef = .pointer (some ⟨rb, 0, none⟩))
    (t4 : a.tmps.getD 4 undef = .pointer (some ⟨pb, 0, none⟩))
    (hp : p.ok) (h0 : RS rb mb kb pb p w) (CF : Calls Tryd.prog 71 #[.pointer (some ⟨rb, 0, none⟩), p.v] w fun e w' => e = .returned (.tuple #[]) ∧ Fin w')
    (h : ∀ (a' : Act) (w' : World), Fin w' → a' = (((a).put (some 14) (.pointer (some ⟨rb, 0, none⟩))).put (some 15) (p.v)).put (some 16) (.tuple #[]) → Q .normal a' w') :
    (Code.region 3 lay3_ops false).wp Tryd.prog Q a w := by
  refine z0 rfl ?_
  refine zv rfl (exec_move rfl (zi t0 rfl)) ?_
  refine zv rfl (exec_load rfl (zi t4 rfl) (RS.lp h0 hp)) ?_
  refine zc rfl (exec_c2 rfl (zg zz rfl) (zg zz rfl)) (CF) (fun e x2 hx => ?_)
  obtain ⟨rfl, HF⟩ := hx
  refine ⟨_, rfl, ?_⟩
  exact ze rfl (h _ _ (HF) rfl)
def lay4_o0 : Oper := ⟨some 17, .move (.tmp 0), 26, "regs.go:110", #[], none⟩
def lay4_o1 : Oper := ⟨some 18, .nilCheck (.tmp 17), 0, "regs.go:110", #[⟨0, .data⟩], none⟩
def lay4_o2 : Oper := ⟨some 19, .fieldAddr 84 (.tmp 18) 0, 0, "regs.go:110", #[⟨1, .data⟩], none⟩
def lay4_o3 : Oper := ⟨some 20, .load 81 (.tmp 19), 81, "regs.go:110", #[⟨2, .data⟩], none⟩
def lay4_o4 : Oper := ⟨some 21, .load 52 (.tmp 4), 52, "regs.go:110", #[], none⟩
def lay4_o5 : Oper := ⟨some 22, .move (.tmp 2), 60, "regs.go:110", #[], none⟩
def lay4_o6 : Oper := ⟨none, .mapUpdate 81 (.tmp 20) (.tmp 21) (.tmp 22), 0, "regs.go:110", #[⟨3, .data⟩, ⟨4, .data⟩, ⟨5, .data⟩, ⟨0, .phase⟩, ⟨1, .phase⟩, ⟨2, .phase⟩, ⟨3, .phase⟩, ⟨4, .phase⟩, ⟨5, .phase⟩], none⟩
def lay4_ops : Array Oper := #[lay4_o0, lay4_o1, lay4_o2, lay4_o3, lay4_o4, lay4_o5, lay4_o6]
theorem lay4 {rb mb kb pb : Nat} {p : PlK} {lv : Value} {w2 : World} (a : Act) (w : World) (Q : Exit → Act → World → Prop) (zz : a.tmps.size = 26)
    (t0 : a.tmps.getD 0 undef = .pointer (some ⟨rb, 0, none⟩))
    (t4 : a.tmps.getD 4 undef = .pointer (some ⟨pb, 0, none⟩))
    (t2 : a.tmps.getD 2 undef = lv)
    (hp : p.ok) (h0 : RS rb mb kb pb p w.drew) (EU : (Instr.mapUpdate 81 (.map (some mb)) p.v lv).run Tryd.prog w.drew = .ok () w2)
    (h : ∀ (a' : Act) (w' : World), w' = w2 → a' = ((((((a).put (some 17) (.pointer (some ⟨rb, 0, none⟩))).put (some 18) (.pointer (some ⟨rb, 0, none⟩))).put (some 19) (.pointer (some ⟨rb, 0 + 0, none⟩))).put (some 20) (.map (some mb))).put (some 21) (p.v)).put (some 22) (lv) → Q .normal a' w') :
    (Code.region 4 lay4_ops true).wp Tryd.prog Q a w := by
  refine x0 6 (fun w' => RS rb mb kb pb p w' ∧ w' = w.drew) (⟨h0, rfl⟩) (fun hHeld => ?_)
  refine xv 0 rfl rfl (fun w1 hw => exec_move rfl (zi t0 rfl)) hHeld ?_
  refine xv 1 rfl rfl (fun w1 hw => exec_nilCheck rfl (zg zz rfl)) hHeld ?_
  refine xv 2 rfl rfl (fun w1 hw => exec_fieldAt rfl (zg zz rfl) (fg_84_0 _ _ _)) hHeld ?_
  refine xv 3 rfl rfl (fun w1 hw => exec_load rfl (zg zz rfl) (RS.l0 hw.1)) hHeld ?_
  refine xv 4 rfl rfl (fun w1 hw => exec_load rfl (zi t4 rfl) (RS.lp hw.1 hp)) hHeld ?_
  refine xv 5 rfl rfl (fun w1 hw => exec_move rfl (zi t2 rfl)) hHeld ?_
  refine xs 6 rfl rfl (exec_mapUpdate rfl (zg zz rfl) (zg zz rfl) (zg zz rfl) EU) (fun hne => absurd rfl hne) (fun _ => ?_)
  exact xe rfl (h _ _ (rfl) rfl)
def lay5_o0 : Oper := ⟨some 23, .move (.tmp 0), 26, "regs.go:111", #[], none⟩
def lay5_o1 : Oper := ⟨some 24, .load 52 (.tmp 4), 52, "regs.go:111", #[], none⟩
def lay5_o2 : Oper := ⟨some 25, .call { callee := Callee.value (Operand.func 72), args := #[.tmp 23, .tmp 24], argTypes := #[26, 52] }, 0, "regs.go:111", #[⟨0, .data⟩, ⟨1, .data⟩], none⟩
def lay5_ops : Array Oper := #[lay5_o0, lay5_o1, lay5_o2]
theorem lay5 {rb mb kb pb : Nat} {p : PlK} (Fin : World → Prop) (a : Act) (w : World) (Q : Exit → Act → World → Prop) (zz : a.tmps.size = 26)
    (t0 : a.tmps.getD 0 undef = .pointer (some ⟨rb, 0, none⟩))
    (t4 : a.tmps.getD 4 undef = .pointer (some ⟨pb, 0, none⟩))
    (hp : p.ok) (h0 : RS rb mb kb pb p w) (CF : Calls Tryd.prog 72 #[.pointer (some ⟨rb, 0, none⟩), p.v] w fun e w' => e = .returned (.tuple #[]) ∧ Fin w')
    (h : ∀ (a' : Act) (w' : World), Fin w' → a' = (((a).put (some 23) (.pointer (some ⟨rb, 0, none⟩))).put (some 24) (p.v)).put (some 25) (.tuple #[]) → Q .normal a' w') :
    (Code.region 5 lay5_ops false).wp Tryd.prog Q a w := by
  refine z0 rfl ?_
  refine zv rfl (exec_move rfl (zi t0 rfl)) ?_
  refine zv rfl (exec_load rfl (zi t4 rfl) (RS.lp h0 hp)) ?_
  refine zc rfl (exec_c2 rfl (zg zz rfl) (zg zz rfl)) (CF) (fun e x2 hx => ?_)
  obtain ⟨rfl, HF⟩ := hx
  refine ⟨_, rfl, ?_⟩
  exact ze rfl (h _ _ (HF) rfl)
def note1_o0 : Oper := ⟨some 4, .fieldAddr 52 (.tmp 3) 2, 0, "regs.go:116", #[], none⟩
def note1_o1 : Oper := ⟨some 5, .load 38 (.tmp 4), 38, "regs.go:116", #[⟨0, .data⟩], none⟩
def note1_o2 : Oper := ⟨some 6, .build 38 #[], 38, "regs.go:116", #[], none⟩
def note1_o3 : Oper := ⟨some 7, .binOp BinOp.neq 38 (.tmp 5) (.tmp 6) 38, 4, "regs.go:116", #[⟨1, .data⟩, ⟨2, .data⟩], none⟩
def note1_ops : Array Oper := #[note1_o0, note1_o1, note1_o2, note1_o3]
theorem note1 {pb : Nat} {p : PlK} {r : Bool} (a : Act) (w : World) (Q : Exit → Act → World → Prop) (zz : a.tmps.size = 33)
    (t3 : a.tmps.getD 3 undef = .pointer (some ⟨pb, 0, none⟩))
    (hp : p.ok) (h0 : w.rangeAt pb 0 p.c) (hr : decide (p.a ≠ zId) = r)
    (h : ∀ (a' : Act) (w' : World), w' = w → a' = ((((a).put (some 4) (.pointer (some ⟨pb, 0 + 34, none⟩))).put (some 5) (p.a.v)).put (some 6) (zId.v)).put (some 7) (.bool r) → Q .normal a' w') :
    (Code.region 1 note1_ops false).wp Tryd.prog Q a w := by
  refine z0 rfl ?_
  refine zv rfl (exec_fieldAt rfl (zi t3 rfl) (fg_52_2 _ _ _)) ?_
  refine zv rfl (exec_load rfl (zg zz rfl) (pl_a hp h0)) ?_
  refine zv rfl (exec_build0 rfl (build_id _)) ?_
  refine zv (v := .bool r) rfl (ex_neqI rfl (zg zz rfl) (zg zz rfl) hp.a zId_ok hr) ?_
  exact ze rfl (h _ _ (rfl) rfl)
def note2_o0 : Oper := ⟨some 8, .move (.tmp 0), 26, "regs.go:119", #[], none⟩
def note2_o1 : Oper := ⟨some 9, .nilCheck (.tmp 8), 0, "regs.go:119", #[⟨0, .data⟩], none⟩
def note2_o2 : Oper := ⟨some 10, .fieldAddr 84 (.tmp 9) 1, 0, "regs.go:119", #[⟨1, .data⟩], none⟩
def note2_o3 : Oper := ⟨some 11, .load 82 (.tmp 10), 82, "regs.go:119", #[⟨2, .data⟩], none⟩
def note2_o4 : Oper := ⟨some 12, .fieldAddr 52 (.tmp 3) 0, 0, "regs.go:119", #[], none⟩
def note2_o5 : Oper := ⟨some 13, .load 38 (.tmp 12), 38, "regs.go:119", #[⟨4, .data⟩], none⟩
def note2_o6 : Oper := ⟨some 14, .lookup 82 (.tmp 11) (.tmp 13) false, 97, "regs.go:119", #[⟨3, .data⟩, ⟨5, .data⟩], none⟩
def note2_o7 : Oper := ⟨some 15, .binOp BinOp.eql 97 (.tmp 14) (Operand.const (Value.map none)) 97, 4, "regs.go:119", #[⟨6, .data⟩], none⟩
def note2_ops : Array Oper := #[note2_o0, note2_o1, note2_o2, note2_o3, note2_o4, note2_o5, note2_o6, note2_o7]
theorem note2 {rb mb kb pb : Nat} {p : PlK} {im : Option Nat} {r : Bool} (a : Act) (w : World) (Q : Exit → Act → World → Prop) (zz : a.tmps.size = 33)
    (t0 : a.tmps.getD 0 undef = .pointer (some ⟨rb, 0, none⟩))
    (t3 : a.tmps.getD 3 undef = .pointer (some ⟨pb, 0, none⟩))
    (hp : p.ok) (h0 : RS rb mb kb pb p w.drew) (LK : ∀ W, W = w.drew → (Instr.lookup 82 (.map (some kb)) p.o.v false).run Tryd.prog W = .ok (.map im) W) (hr : im.isNone = r)
    (h : ∀ (a' : Act) (w' : World), w' = w.drew → a' = ((((((((a).put (some 8) (.pointer (some ⟨rb, 0, none⟩))).put (some 9) (.pointer (some ⟨rb, 0, none⟩))).put (some 10) (.pointer (some ⟨rb, 0 + 1, none⟩))).put (some 11) (.map (some kb))).put (some 12) (.pointer (some ⟨pb, 0 + 0, none⟩))).put (some 13) (p.o.v)).put (some 14) (.map im)).put (some 15) (.bool r) → Q .normal a' w') :
    (Code.region 2 note2_ops true).wp Tryd.prog Q a w := by
  refine y0 (fun w' => RS rb mb kb pb p w' ∧ w' = w.drew) (⟨h0, rfl⟩) (fun hHeld => ?_)
  refine yv 0 rfl rfl (fun w1 hw => exec_move rfl (zi t0 rfl)) hHeld ?_
  refine yv 1 rfl rfl (fun w1 hw => exec_nilCheck rfl (zg zz rfl)) hHeld ?_
  refine yv 2 rfl rfl (fun w1 hw => exec_fieldAt rfl (zg zz rfl) (fg_84_1 _ _ _)) hHeld ?_
  refine yv 3 rfl rfl (fun w1 hw => exec_load rfl (zg zz rfl) (RS.l1 hw.1)) hHeld ?_
  refine yv 4 rfl rfl (fun w1 hw => exec_fieldAt rfl (zi t3 rfl) (fg_52_0 _ _ _)) hHeld ?_
  refine yv 5 rfl rfl (fun w1 hw => exec_load rfl (zg zz rfl) (RS.lo hw.1 hp)) hHeld ?_
  refine yv (v := .map im) 6 rfl rfl (fun w1 hw => exec_lookup rfl (zg zz rfl) (zg zz rfl) (LK _ hw.2)) hHeld ?_
  refine yv (v := .bool r) 7 rfl rfl (fun w1 hw => ex_eqm rfl (zg zz rfl) rfl hr) hHeld ?_
  exact ye rfl (h _ _ (hHeld.2) rfl)
def note3_o0 : Oper := ⟨some 16, .move (.tmp 0), 26, "regs.go:120", #[], none⟩
def note3_o1 : Oper := ⟨some 17, .nilCheck (.tmp 16), 0, "regs.go:120", #[⟨0, .data⟩], none⟩
def note3_o2 : Oper := ⟨some 18, .fieldAddr 84 (.tmp 17) 1, 0, "regs.go:120", #[⟨1, .data⟩], none⟩
def note3_o3 : Oper := ⟨some 19, .load 82 (.tmp 18), 82, "regs.go:120", #[⟨2, .data⟩], none⟩
def note3_o4 : Oper := ⟨some 20, .fieldAddr 52 (.tmp 3) 0, 0, "regs.go:120", #[], none⟩
def note3_o5 : Oper := ⟨some 21, .load 38 (.tmp 20), 38, "regs.go:120", #[⟨4, .data⟩], none⟩
def note3_o6 : Oper := ⟨some 22, .makeMap 97 none, 97, "regs.go:120", #[], none⟩
def note3_o7 : Oper := ⟨none, .mapUpdate 82 (.tmp 19) (.tmp 21) (.tmp 22), 0, "regs.go:120", #[⟨3, .data⟩, ⟨5, .data⟩, ⟨6, .data⟩, ⟨0, .phase⟩, ⟨1, .phase⟩, ⟨2, .phase⟩, ⟨3, .phase⟩, ⟨4, .phase⟩, ⟨5, .phase⟩, ⟨6, .phase⟩], none⟩
def note3_ops : Array Oper := #[note3_o0, note3_o1, note3_o2, note3_o3, note3_o4, note3_o5, note3_o6, note3_o7]
theorem note3 {rb mb kb pb : Nat} {p : PlK} {ib : Nat} {w1 w2 : World} (a : Act) (w : World) (Q : Exit → Act → World → Prop) (zz : a.tmps.size = 33)
    (t0 : a.tmps.getD 0 undef = .pointer (some ⟨rb, 0, none⟩))
    (t3 : a.tmps.getD 3 undef = .pointer (some ⟨pb, 0, none⟩))
    (hp : p.ok) (h0 : RS rb mb kb pb p w.drew) (EM : (Instr.makeMap 97 none).run Tryd.prog w.drew = .ok (.map (some ib)) w1) (S1 : RS rb mb kb pb p w1) (EU : (Instr.mapUpdate 82 (.map (some kb)) p.o.v (.map (some ib))).run Tryd.prog w1 = .ok () w2)
    (h : ∀ (a' : Act) (w' : World), w' = w2 → a' = (((((((a).put (some 16) (.pointer (some ⟨rb, 0, none⟩))).put (some 17) (.pointer (some ⟨rb, 0, none⟩))).put (some 18) (.pointer (some ⟨rb, 0 + 1, none⟩))).put (some 19) (.map (some kb))).put (some 20) (.pointer (some ⟨pb, 0 + 0, none⟩))).put (some 21) (p.o.v)).put (some 22) (.map (some ib)) → Q .normal a' w') :
    (Code.region 3 note3_ops true).wp Tryd.prog Q a w := by
  refine x0 7 (fun w' => RS rb mb kb pb p w') (h0) (fun hHeld => ?_)
  refine xv 0 rfl rfl (fun w1 hw => exec_move rfl (zi t0 rfl)) hHeld ?_
  refine xv 1 rfl rfl (fun w1 hw => exec_nilCheck rfl (zg zz rfl)) hHeld ?_
  refine xv 2 rfl rfl (fun w1 hw => exec_fieldAt rfl (zg zz rfl) (fg_84_1 _ _ _)) hHeld ?_
  refine xv 3 rfl rfl (fun w1 hw => exec_load rfl (zg zz rfl) (RS.l1 hw)) hHeld ?_
  refine xv 4 rfl rfl (fun w1 hw => exec_fieldAt rfl (zi t3 rfl) (fg_52_0 _ _ _)) hHeld ?_
  refine xv 5 rfl rfl (fun w1 hw => exec_load rfl (zg zz rfl) (RS.lo hw hp)) hHeld ?_
  refine xr (v := .map (some ib)) 6 rfl rfl (exec_makeMap rfl EM) (fun _ => S1) (fun hHeld => ?_)
  replace hHeld := hHeld (by decide)
  refine xs 7 rfl rfl (exec_mapUpdate rfl (zg zz rfl) (zg zz rfl) (zg zz rfl) EU) (fun hne => absurd rfl hne) (fun _ => ?_)
  exact xe rfl (h _ _ (rfl) rfl)
def note4_o0 : Oper := ⟨some 23, .move (.tmp 0), 26, "regs.go:122", #[], none⟩
def note4_o1 : Oper := ⟨some 24, .nilCheck (.tmp 23), 0, "regs.go:122", #[⟨0, .data⟩], none⟩
def note4_o2 : Oper := ⟨some 25, .fieldAddr 84 (.tmp 24) 1, 0, "regs.go:122", #[⟨1, .data⟩], none⟩
def note4_o3 : Oper := ⟨some 26, .load 82 (.tmp 25), 82, "regs.go:122", #[⟨2, .data⟩], none⟩
def note4_o4 : Oper := ⟨some 27, .fieldAddr 52 (.tmp 3) 0, 0, "regs.go:122", #[], none⟩
def note4_o5 : Oper := ⟨some 28, .load 38 (.tmp 27), 38, "regs.go:122", #[⟨4, .data⟩], none⟩
def note4_o6 : Oper := ⟨some 29, .lookup 82 (.tmp 26) (.tmp 28) false, 97, "regs.go:122", #[⟨3, .data⟩, ⟨5, .data⟩], none⟩
def note4_o7 : Oper := ⟨some 30, .fieldAddr 52 (.tmp 3) 1, 0, "regs.go:122", #[], none⟩
def note4_o8 : Oper := ⟨some 31, .load 9 (.tmp 30), 9, "regs.go:122", #[⟨7, .data⟩], none⟩
def note4_o9 : Oper := ⟨some 32, .build 99 #[], 99, "regs.go:122", #[], none⟩
def note4_o10 : Oper := ⟨none, .mapUpdate 97 (.tmp 29) (.tmp 31) (.tmp 32), 0, "regs.go:122", #[⟨6, .data⟩, ⟨8, .data⟩, ⟨9, .data⟩, ⟨0, .phase⟩, ⟨1, .phase⟩, ⟨2, .phase⟩, ⟨3, .phase⟩, ⟨4, .phase⟩, ⟨5, .phase⟩, ⟨6, .phase⟩, ⟨7, .phase⟩, ⟨8, .phase⟩, ⟨9, .phase⟩], none⟩
def note4_ops : Array Oper := #[note4_o0, note4_o1, note4_o2, note4_o3, note4_o4, note4_o5, note4_o6, note4_o7, note4_o8, note4_o9, note4_o10]
theorem note4 {rb mb kb pb : Nat} {p : PlK} {ib : Nat} {w2 : World} (a : Act) (w : World) (Q : Exit → Act → World → Prop) (zz : a.tmps.size = 33)
    (t0 : a.tmps.getD 0 undef = .pointer (some ⟨rb, 0, none⟩))
    (t3 : a.tmps.getD 3 undef = .pointer (some ⟨pb, 0, none⟩))
    (hp : p.ok) (h0 : RS rb mb kb pb p w.drew) (LK : ∀ W, W = w.drew → (Instr.lookup 82 (.map (some kb)) p.o.v false).run Tryd.prog W = .ok (.map (some ib)) W) (EU : (Instr.mapUpdate 97 (.map (some ib)) (.string p.k) (.agg #[])).run Tryd.prog w.drew = .ok () w2)
    (h : ∀ (a' : Act) (w' : World), w' = w2 → a' = ((((((((((a).put (some 23) (.pointer (some ⟨rb, 0, none⟩))).put (some 24) (.pointer (some ⟨rb, 0, none⟩))).put (some 25) (.pointer (some ⟨rb, 0 + 1, none⟩))).put (some 26) (.map (some kb))).put (some 27) (.pointer (some ⟨pb, 0 + 0, none⟩))).put (some 28) (p.o.v)).put (some 29) (.map (some ib))).put (some 30) (.pointer (some ⟨pb, 0 + 33, none⟩))).put (some 31) (.string p.k)).put (some 32) (.agg #[]) → Q .normal a' w') :
    (Code.region 4 note4_ops true).wp Tryd.prog Q a w := by
  refine x0 10 (fun w' => RS rb mb kb pb p w' ∧ w' = w.drew) (⟨h0, rfl⟩) (fun hHeld => ?_)
  refine xv 0 rfl rfl (fun w1 hw => exec_move rfl (zi t0 rfl)) hHeld ?_
  refine xv 1 rfl rfl (fun w1 hw => exec_nilCheck rfl (zg zz rfl)) hHeld ?_
  refine xv 2 rfl rfl (fun w1 hw => exec_fieldAt rfl (zg zz rfl) (fg_84_1 _ _ _)) hHeld ?_
  refine xv 3 rfl rfl (fun w1 hw => exec_load rfl (zg zz rfl) (RS.l1 hw.1)) hHeld ?_
  refine xv 4 rfl rfl (fun w1 hw => exec_fieldAt rfl (zi t3 rfl) (fg_52_0 _ _ _)) hHeld ?_
  refine xv 5 rfl rfl (fun w1 hw => exec_load rfl (zg zz rfl) (RS.lo hw.1 hp)) hHeld ?_
  refine xv (v := .map (some ib)) 6 rfl rfl (fun w1 hw => exec_lookup rfl (zg zz rfl) (zg zz rfl) (LK _ hw.2)) hHeld ?_
  refine xv 7 rfl rfl (fun w1 hw => exec_fieldAt rfl (zi t3 rfl) (fg_52_1 _ _ _)) hHeld ?_
  refine xv 8 rfl rfl (fun w1 hw => exec_load rfl (zg zz rfl) (RS.lk hw.1 hp)) hHeld ?_
  refine xv 9 rfl rfl (fun w1 hw => exec_build0 rfl (build_un _)) hHeld ?_
  refine xs 10 rfl rfl (exec_mapUpdate rfl (zg zz rfl) (zg zz rfl) (zg zz rfl) EU) (fun hne => absurd rfl hne) (fun _ => ?_)
  exact xe rfl (h _ _ (rfl) rfl)
def forg1_o0 : Oper := ⟨some 4, .fieldAddr 52 (.tmp 3) 2, 0, "regs.go:127", #[], none⟩
def forg1_o1 : Oper := ⟨some 5, .load 38 (.tmp 4), 38, "regs.go:127", #[⟨0, .data⟩], none⟩
def forg1_o2 : Oper := ⟨some 6, .build 38 #[], 38, "regs.go:127", #[], none⟩
def forg1_o3 : Oper := ⟨some 7, .binOp BinOp.neq 38 (.tmp 5) (.tmp 6) 38, 4, "regs.go:127", #[⟨1, .data⟩, ⟨2, .data⟩], none⟩
def forg1_ops : Array Oper := #[forg1_o0, forg1_o1, forg1_o2, forg1_o3]
theorem forg1 {pb : Nat} {p : PlK} {r : Bool} (a : Act) (w : World) (Q : Exit → Act → World → Prop) (zz : a.tmps.size = 32)
    (t3 : a.tmps.getD 3 undef = .pointer (some ⟨pb, 0, none⟩))
    (hp : p.ok) (h0 : w.rangeAt pb 0 p.c) (hr : decide (p.a ≠ zId) = r)
    (h : ∀ (a' : Act) (w' : World), w' = w → a' = ((((a).put (some 4) (.pointer (some ⟨pb, 0 + 34, none⟩))).put (some 5) (p.a.v)).put (some 6) (zId.v)).put (some 7) (.bool r) → Q .normal a' w') :
    (Code.region 1 forg1_ops false).wp Tryd.prog Q a w := by
  refine z0 rfl ?_
  refine zv rfl (exec_fieldAt rfl (zi t3 rfl) (fg_52_2 _ _ _)) ?_
  refine zv rfl (exec_load rfl (zg zz rfl) (pl_a hp h0)) ?_
  refine zv rfl (exec_build0 rfl (build_id _)) ?_
  refine zv (v := .bool r) rfl (ex_neqI rfl (zg zz rfl) (zg zz rfl) hp.a zId_ok hr) ?_
  exact ze rfl (h _ _ (rfl) rfl)
def forg2_o0 : Oper := ⟨some 8, .move (.tmp 0), 26, "regs.go:130", #[], none⟩
def forg2_o1 : Oper := ⟨some 9, .nilCheck (.tmp 8), 0, "regs.go:130", #[⟨0, .data⟩], none⟩
def forg2_o2 : Oper := ⟨some 10, .fieldAddr 84 (.tmp 9) 1, 0, "regs.go:130", #[⟨1, .data⟩], none⟩
def forg2_o3 : Oper := ⟨some 11, .load 82 (.tmp 10), 82, "regs.go:130", #[⟨2, .data⟩], none⟩
def forg2_o4 : Oper := ⟨some 12, .fieldAddr 52 (.tmp 3) 0, 0, "regs.go:130", #[], none⟩
def forg2_o5 : Oper := ⟨some 13, .load 38 (.tmp 12), 38, "regs.go:130", #[⟨4, .data⟩], none⟩
def forg2_o6 : Oper := ⟨some 14, .lookup 82 (.tmp 11) (.tmp 13) false, 97, "regs.go:130", #[⟨3, .data⟩, ⟨5, .data⟩], none⟩
def forg2_o7 : Oper := ⟨some 15, .fieldAddr 52 (.tmp 3) 1, 0, "regs.go:130", #[], none⟩
def forg2_o8 : Oper := ⟨some 16, .load 9 (.tmp 15), 9, "regs.go:130", #[⟨7, .data⟩], none⟩
def forg2_o9 : Oper := ⟨none, .call { callee := Callee.builtin Builtin.delete, args := #[.tmp 14, .tmp 16], argTypes := #[97, 9] }, 0, "regs.go:130", #[⟨6, .data⟩, ⟨8, .data⟩], none⟩
def forg2_ops : Array Oper := #[forg2_o0, forg2_o1, forg2_o2, forg2_o3, forg2_o4, forg2_o5, forg2_o6, forg2_o7, forg2_o8, forg2_o9]
theorem forg2 {rb mb kb pb : Nat} {p : PlK} {im : Option Nat} {w2 : World} (a : Act) (w : World) (Q : Exit → Act → World → Prop) (zz : a.tmps.size = 32)
    (t0 : a.tmps.getD 0 undef = .pointer (some ⟨rb, 0, none⟩))
    (t3 : a.tmps.getD 3 undef = .pointer (some ⟨pb, 0, none⟩))
    (hp : p.ok) (h0 : RS rb mb kb pb p w.drew) (LK : ∀ W, W = w.drew → (Instr.lookup 82 (.map (some kb)) p.o.v false).run Tryd.prog W = .ok (.map im) W) (ED : (Builtin.delete_ #[97, 9] 0 #[.map im, .string p.k]).run Tryd.prog w.drew = .ok (.tuple #[]) w2)
    (h : ∀ (a' : Act) (w' : World), w' = w2 → a' = (((((((((a).put (some 8) (.pointer (some ⟨rb, 0, none⟩))).put (some 9) (.pointer (some ⟨rb, 0, none⟩))).put (some 10) (.pointer (some ⟨rb, 0 + 1, none⟩))).put (some 11) (.map (some kb))).put (some 12) (.pointer (some ⟨pb, 0 + 0, none⟩))).put (some 13) (p.o.v)).put (some 14) (.map im)).put (some 15) (.pointer (some ⟨pb, 0 + 33, none⟩))).put (some 16) (.string p.k) → Q .normal a' w') :
    (Code.region 2 forg2_ops true).wp Tryd.prog Q a w := by
  refine x0 9 (fun w' => RS rb mb kb pb p w' ∧ w' = w.drew) (⟨h0, rfl⟩) (fun hHeld => ?_)
  refine xv 0 rfl rfl (fun w1 hw => exec_move rfl (zi t0 rfl)) hHeld ?_
  refine xv 1 rfl rfl (fun w1 hw => exec_nilCheck rfl (zg zz rfl)) hHeld ?_
  refine xv 2 rfl rfl (fun w1 hw => exec_fieldAt rfl (zg zz rfl) (fg_84_1 _ _ _)) hHeld ?_
  refine xv 3 rfl rfl (fun w1 hw => exec_load rfl (zg zz rfl) (RS.l1 hw.1)) hHeld ?_
  refine xv 4 rfl rfl (fun w1 hw => exec_fieldAt rfl (zi t3 rfl) (fg_52_0 _ _ _)) hHeld ?_
  refine xv 5 rfl rfl (fun w1 hw => exec_load rfl (zg zz rfl) (RS.lo hw.1 hp)) hHeld ?_
  refine xv (v := .map im) 6 rfl rfl (fun w1 hw => exec_lookup rfl (zg zz rfl) (zg zz rfl) (LK _ hw.2)) hHeld ?_
  refine xv 7 rfl rfl (fun w1 hw => exec_fieldAt rfl (zi t3 rfl) (fg_52_1 _ _ _)) hHeld ?_
  refine xv 8 rfl rfl (fun w1 hw => exec_load rfl (zg zz rfl) (RS.lk hw.1 hp)) hHeld ?_
  refine xd 9 rfl rfl (exec_delete rfl (zg zz rfl) (zg zz rfl) ED) (fun hne => absurd rfl hne) (fun _ => ?_)
  exact xe rfl (h _ _ (rfl) rfl)
def forg3_o0 : Oper := ⟨some 17, .move (.tmp 0), 26, "regs.go:131", #[], none⟩
def forg3_o1 : Oper := ⟨some 18, .nilCheck (.tmp 17), 0, "regs.go:131", #[⟨0, .data⟩], none⟩
def forg3_o2 : Oper := ⟨some 19, .fieldAddr 84 (.tmp 18) 1, 0, "regs.go:131", #[⟨1, .data⟩], none⟩
def forg3_o3 : Oper := ⟨some 20, .load 82 (.tmp 19), 82, "regs.go:131", #[⟨2, .data⟩], none⟩
def forg3_o4 : Oper := ⟨some 21, .fieldAddr 52 (.tmp 3) 0, 0, "regs.go:131", #[], none⟩
def forg3_o5 : Oper := ⟨some 22, .load 38 (.tmp 21), 38, "regs.go:131", #[⟨4, .data⟩], none⟩
def forg3_o6 : Oper := ⟨some 23, .lookup 82 (.tmp 20) (.tmp 22) false, 97, "regs.go:131", #[⟨3, .data⟩, ⟨5, .data⟩], none⟩
def forg3_o7 : Oper := ⟨some 24, .call { callee := Callee.builtin Builtin.len, args := #[.tmp 23], argTypes := #[97] }, 3, "regs.go:131", #[⟨6, .data⟩], none⟩
def forg3_o8 : Oper := ⟨some 25, .binOp BinOp.eql 3 (.tmp 24) (Operand.const (Value.int IntKind.i64 0)) 3, 4, "regs.go:131", #[⟨7, .data⟩], none⟩
def forg3_ops : Array Oper := #[forg3_o0, forg3_o1, forg3_o2, forg3_o3, forg3_o4, forg3_o5, forg3_o6, forg3_o7, forg3_o8]
theorem forg3 {rb mb kb pb : Nat} {p : PlK} {im : Option Nat} {n : Nat} {r : Bool} (a : Act) (w : World) (Q : Exit → Act → World → Prop) (zz : a.tmps.size = 32)
    (t0 : a.tmps.getD 0 undef = .pointer (some ⟨rb, 0, none⟩))
    (t3 : a.tmps.getD 3 undef = .pointer (some ⟨pb, 0, none⟩))
    (hp : p.ok) (h0 : RS rb mb kb pb p w.drew) (LK : ∀ W, W = w.drew → (Instr.lookup 82 (.map (some kb)) p.o.v false).run Tryd.prog W = .ok (.map im) W) (LN : ∀ W, W = w.drew → (Builtin.len_ #[97] 3 #[.map im]).run Tryd.prog W = .ok (.int .i64 (n : Int)) W) (hr : decide (n = 0) = r)
    (h : ∀ (a' : Act) (w' : World), w' = w.drew → a' = (((((((((a).put (some 17) (.pointer (some ⟨rb, 0, none⟩))).put (some 18) (.pointer (some ⟨rb, 0, none⟩))).put (some 19) (.pointer (some ⟨rb, 0 + 1, none⟩))).put (some 20) (.map (some kb))).put (some 21) (.pointer (some ⟨pb, 0 + 0, none⟩))).put (some 22) (p.o.v)).put (some 23) (.map im)).put (some 24) (.int .i64 (n : Int))).put (some 25) (.bool r) → Q .normal a' w') :
    (Code.region 3 forg3_ops true).wp Tryd.prog Q a w := by
  refine y0 (fun w' => RS rb mb kb pb p w' ∧ w' = w.drew) (⟨h0, rfl⟩) (fun hHeld => ?_)
  refine yv 0 rfl rfl (fun w1 hw => exec_move rfl (zi t0 rfl)) hHeld ?_
  refine yv 1 rfl rfl (fun w1 hw => exec_nilCheck rfl (zg zz rfl)) hHeld ?_
  refine yv 2 rfl rfl (fun w1 hw => exec_fieldAt rfl (zg zz rfl) (fg_84_1 _ _ _)) hHeld ?_
  refine yv 3 rfl rfl (fun w1 hw => exec_load rfl (zg zz rfl) (RS.l1 hw.1)) hHeld ?_
  refine yv 4 rfl rfl (fun w1 hw => exec_fieldAt rfl (zi t3 rfl) (fg_52_0 _ _ _)) hHeld ?_
  refine yv 5 rfl rfl (fun w1 hw => exec_load rfl (zg zz rfl) (RS.lo hw.1 hp)) hHeld ?_
  refine yv (v := .map im) 6 rfl rfl (fun w1 hw => exec_lookup rfl (zg zz rfl) (zg zz rfl) (LK _ hw.2)) hHeld ?_
  refine yv 7 rfl rfl (fun w1 hw => exec_len rfl (zg zz rfl) (LN _ hw.2)) hHeld ?_
  refine yv (v := .bool r) 8 rfl rfl (fun w1 hw => ex_eq0 rfl (zg zz rfl) rfl hr) hHeld ?_
  exact ye rfl (h _ _ (hHeld.2) rfl)
def forg4_o0 : Oper := ⟨some 26, .move (.tmp 0), 26, "regs.go:132", #[], none⟩
def forg4_o1 : Oper := ⟨some 27, .nilCheck (.tmp 26), 0, "regs.go:132", #[⟨0, .data⟩], none⟩
def forg4_o2 : Oper := ⟨some 28, .fieldAddr 84 (.tmp 27) 1, 0, "regs.go:132", #[⟨1, .data⟩], none⟩
def forg4_o3 : Oper := ⟨some 29, .load 82 (.tmp 28), 82, "regs.go:132", #[⟨2, .data⟩], none⟩
def forg4_o4 : Oper := ⟨some 30, .fieldAddr 52 (.tmp 3) 0, 0, "regs.go:132", #[], none⟩
def forg4_o5 : Oper := ⟨some 31, .load 38 (.tmp 30), 38, "regs.go:132", #[⟨4, .data⟩], none⟩
def forg4_o6 : Oper := ⟨none, .call { callee := Callee.builtin Builtin.delete, args := #[.tmp 29, .tmp 31], argTypes := #[82, 38] }, 0, "regs.go:132", #[⟨3, .data⟩, ⟨5, .data⟩], none⟩
def forg4_ops : Array Oper := #[forg4_o0, forg4_o1, forg4_o2, forg4_o3, forg4_o4, forg4_o5, forg4_o6]
theorem forg4 {rb mb kb pb : Nat} {p : PlK} {w2 : World} (a : Act) (w : World) (Q : Exit → Act → World → Prop) (zz : a.tmps.size = 32)
    (t0 : a.tmps.getD 0 undef = .pointer (some ⟨rb, 0, none⟩))
    (t3 : a.tmps.getD 3 undef = .pointer (some ⟨pb, 0, none⟩))
    (hp : p.ok) (h0 : RS rb mb kb pb p w.drew) (ED : (Builtin.delete_ #[82, 38] 0 #[.map (some kb), p.o.v]).run Tryd.prog w.drew = .ok (.tuple #[]) w2)
    (h : ∀ (a' : Act) (w' : World), w' = w2 → a' = ((((((a).put (some 26) (.pointer (some ⟨rb, 0, none⟩))).put (some 27) (.pointer (some ⟨rb, 0, none⟩))).put (some 28) (.pointer (some ⟨rb, 0 + 1, none⟩))).put (some 29) (.map (some kb))).put (some 30) (.pointer (some ⟨pb, 0 + 0, none⟩))).put (some 31) (p.o.v) → Q .normal a' w') :
    (Code.region 4 forg4_ops true).wp Tryd.prog Q a w := by
  refine x0 6 (fun w' => RS rb mb kb pb p w' ∧ w' = w.drew) (⟨h0, rfl⟩) (fun hHeld => ?_)
  refine xv 0 rfl rfl (fun w1 hw => exec_move rfl (zi t0 rfl)) hHeld ?_
  refine xv 1 rfl rfl (fun w1 hw => exec_nilCheck rfl (zg zz rfl)) hHeld ?_
  refine xv 2 rfl rfl (fun w1 hw => exec_fieldAt rfl (zg zz rfl) (fg_84_1 _ _ _)) hHeld ?_
  refine xv 3 rfl rfl (fun w1 hw => exec_load rfl (zg zz rfl) (RS.l1 hw.1)) hHeld ?_
  refine xv 4 rfl rfl (fun w1 hw => exec_fieldAt rfl (zi t3 rfl) (fg_52_0 _ _ _)) hHeld ?_
  refine xv 5 rfl rfl (fun w1 hw => exec_load rfl (zg zz rfl) (RS.lo hw.1 hp)) hHeld ?_
  refine xd 6 rfl rfl (exec_delete rfl (zg zz rfl) (zg zz rfl) ED) (fun hne => absurd rfl hne) (fun _ => ?_)
  exact xe rfl (h _ _ (rfl) rfl)
def step1_o0 : Oper := ⟨some 5, .move (.tmp 0), 26, "regs.go:86", #[], none⟩
def step1_o1 : Oper := ⟨some 6, .move (.tmp 0), 26, "regs.go:86", #[], none⟩
def step1_o2 : Oper := ⟨some 7, .nilCheck (.tmp 6), 0, "regs.go:86", #[⟨1, .data⟩], none⟩
def step1_o3 : Oper := ⟨some 8, .fieldAddr 84 (.tmp 7) 2, 0, "regs.go:86", #[⟨2, .data⟩], none⟩
def step1_o4 : Oper := ⟨some 9, .load 54 (.tmp 8), 54, "regs.go:86", #[⟨3, .data⟩], none⟩
def step1_o5 : Oper := ⟨some 10, .move (.tmp 1), 106, "regs.go:86", #[], none⟩
def step1_o6 : Oper := ⟨some 11, .build 111 #[(0, .tmp 9), (1, .tmp 10)], 111, "regs.go:86", #[⟨4, .data⟩, ⟨5, .data⟩], none⟩
def step1_o7 : Oper := ⟨some 12, .box 111 (.tmp 11), 54, "regs.go:86", #[⟨6, .data⟩], none⟩
def step1_o8 : Oper := ⟨some 13, .nilCheck (.tmp 5), 0, "regs.go:86", #[⟨0, .data⟩, ⟨0, .phase⟩, ⟨1, .phase⟩, ⟨2, .phase⟩, ⟨3, .phase⟩, ⟨4, .phase⟩, ⟨5, .phase⟩, ⟨6, .phase⟩, ⟨7, .phase⟩], none⟩
def step1_o9 : Oper := ⟨some 14, .fieldAddr 84 (.tmp 13) 2, 0, "regs.go:86", #[⟨8, .data⟩, ⟨0, .phase⟩, ⟨1, .phase⟩, ⟨2, .phase⟩, ⟨3, .phase⟩, ⟨4, .phase⟩, ⟨5, .phase⟩, ⟨6, .phase⟩, ⟨7, .phase⟩], none⟩
def step1_o10 : Oper := ⟨none, .store 54 (.tmp 14) (.tmp 12), 0, "regs.go:86", #[⟨9, .data⟩, ⟨7, .data⟩, ⟨0, .phase⟩, ⟨1, .phase⟩, ⟨2, .phase⟩, ⟨3, .phase⟩, ⟨4, .phase⟩, ⟨5, .phase⟩, ⟨6, .phase⟩, ⟨7, .phase⟩], none⟩
def step1_ops : Array Oper := #[step1_o0, step1_o1, step1_o2, step1_o3, step1_o4, step1_o5, step1_o6, step1_o7, step1_o8, step1_o9, step1_o10]
theorem step1 {rb F : Nat} {c : Array Value} {la : Option Addr} {w2 : World} (a : Act) (w : World) (Q : Exit → Act → World → Prop) (zz : a.tmps.size = 19)
    (t0 : a.tmps.getD 0 undef = .pointer (some ⟨rb, 0, none⟩))
    (t1 : a.tmps.getD 1 undef = .func (.func F) #[] c)
    (h0 : (Instr.loadAt 54 (.pointer (some ⟨rb, 0 + 2, none⟩))).run Tryd.prog w = .ok (.pointer la) w) (ES : (Instr.storeAt 54 (.pointer (some ⟨rb, 0 + 2, none⟩)) (.pointer (some ⟨w.heap.size, 0, none⟩))).run Tryd.prog (w.alloc (.cells #[.pointer la, .func (.func F) #[] c] 111)) = .ok () w2)
    (h : ∀ (a' : Act) (w' : World), w' = w2 → a' = ((((((((((a).put (some 5) (.pointer (some ⟨rb, 0, none⟩))).put (some 6) (.pointer (some ⟨rb, 0, none⟩))).put (some 7) (.pointer (some ⟨rb, 0, none⟩))).put (some 8) (.pointer (some ⟨rb, 0 + 2, none⟩))).put (some 9) (.pointer la)).put (some 10) (.func (.func F) #[] c)).put (some 11) (.agg #[.pointer la, .func (.func F) #[] c])).put (some 12) (.pointer (some ⟨w.heap.size, 0, none⟩))).put (some 13) (.pointer (some ⟨rb, 0, none⟩))).put (some 14) (.pointer (some ⟨rb, 0 + 2, none⟩)) → Q .normal a' w') :
    (Code.region 1 step1_ops false).wp Tryd.prog Q a w := by
  refine z0 rfl ?_
  refine zv rfl (exec_move rfl (zi t0 rfl)) ?_
  refine zv rfl (exec_move rfl (zi t0 rfl)) ?_
  refine zv rfl (exec_nilCheck rfl (zg zz rfl)) ?_
  refine zv rfl (exec_fieldAt rfl (zg zz rfl) (fg_84_2 _ _ _)) ?_
  refine zv rfl (exec_load rfl (zg zz rfl) h0) ?_
  refine zv rfl (exec_move rfl (zi t1 rfl)) ?_
  refine zv (v := .agg #[.pointer la, .func (.func F) #[] c]) rfl (exec_bbk rfl (zg zz rfl) (zg zz rfl) (build_bk _ _ _ _)) ?_
  refine zv (v := .pointer (some ⟨w.heap.size, 0, none⟩)) rfl (exec_boxE rfl (zg zz rfl) (run_box _ _ _)) ?_
  refine zv rfl (exec_nilCheck rfl (zg zz rfl)) ?_
  refine zv rfl (exec_fieldAt rfl (zg zz rfl) (fg_84_2 _ _ _)) ?_
  refine zs rfl (exec_store rfl (zg zz rfl) (zg zz rfl) ES) ?_
  exact ze rfl (h _ _ (rfl) rfl)
structure Rs where
  r : Nat
  bp : Nat
  bk : Nat
  P : List (PlK × (Value × List EnV))
  K : List (IdK × (Nat × List ByteArray))
  last : Option Addr
def entP (P : List (PlK × (Value × List EnV))) : List (PlK × Value) := M.onV (fun q => q.1) P
def entK (K : List (IdK × (Nat × List ByteArray))) : List (IdK × Value) := M.onV (fun q => Value.map (some q.1)) K
def entS (l : List ByteArray) : List (ByteArray × Value) := M.onV (fun _ : Unit => Value.agg #[]) (l.map fun k => (k, ()))
def txOk (s : ByteArray) : Prop := s.size ≤ maxLen
def Rs.bl (s : Rs) : List Nat := s.r :: s.bp :: s.bk :: s.K.map (·.2.1)
structure RgM (w : World) (base : Nat) (s : Rs) : Prop where
  cell : w.heap[s.r]? = some (.cells #[.map (some s.bp), .map (some s.bk), .pointer s.last] 84 (0, 0))
  pl : M.MapAt w s.bp PlK.v PlK.ok (entP s.P)
  kl : M.MapAt w s.bk IdK.v IdK.ok (entK s.K)
  kr : ∀ q ∈ s.K, M.MapAt w q.2.1 tx txOk (entS q.2.2)
  en : ∀ q ∈ s.P, RN.Lo w base q.2.1 q.2.2 ∧ q.2.2 ≠ [] ∧ ∀ x ∈ q.2.2, x.ok
  dis : s.bl.Nodup
  ead : (s.P.map (·.2.1.ownBlock)).Nodup
  lo : ∀ j ∈ s.bl, base ≤ j
theorem RgM.lt {w : World} {base : Nat} {s : Rs} (h : RgM w base s) : ∀ k ∈ s.bl, k < w.heap.size := by
  intro k hk
  rcases List.mem_cons.1 hk with rfl | hk
  · exact (Array.getElem?_eq_some_iff.1 h.cell).1
  rcases List.mem_cons.1 hk with rfl | hk
  · exact h.pl.lt
  rcases List.mem_cons.1 hk with rfl | hk
  · exact h.kl.lt
  · obtain ⟨r, hr, rfl⟩ := List.mem_map.1 hk
    exact (h.kr r hr).lt
theorem RgM.keep {w w' : World} {base : Nat} {s : Rs} (h : RgM w base s) (hb : ∀ k ∈ s.bl, w'.heap[k]? = w.heap[k]?) (he : ∀ q ∈ s.P, ∀ k, q.2.1.ownBlock = some k → w'.heap[k]? = w.heap[k]?) : RgM w' base s :=
  ⟨(hb _ (by simp [Rs.bl])).trans h.cell, h.pl.below (hb _ (by simp [Rs.bl])), h.kl.below (hb _ (by simp [Rs.bl])), fun r hr => (h.kr r hr).below (hb _ (by
    unfold Rs.bl
    exact List.mem_cons_of_mem _ (List.mem_cons_of_mem _ (List.mem_cons_of_mem _ (List.mem_map.2 ⟨r, hr, rfl⟩))))), fun q hq => ⟨(h.en q hq).1.keep (he q hq), (h.en q hq).2⟩, h.dis, h.ead, h.lo⟩
theorem RgM.below {w w' : World} {base : Nat} {s : Rs} (h : RgM w base s) (b : Below w.heap.size w w') : RgM w' base s := h.keep (fun k hk => b.block k (h.lt k hk)) (fun q hq k hk => b.block k ((h.en q hq).1.lt hk))
theorem RgM.c0 {w : World} {base : Nat} {s : Rs} (h : RgM w base s) : w.cell? ⟨s.r, 0, none⟩ = some (.map (some s.bp)) := by rw [cell_of_row _ _ 0 _ _ _ h.cell]; rfl
theorem RgM.c1 {w : World} {base : Nat} {s : Rs} (h : RgM w base s) : w.cell? ⟨s.r, 1, none⟩ = some (.map (some s.bk)) := by rw [cell_of_row _ _ 1 _ _ _ h.cell]; rfl
theorem RgM.c2 {w : World} {base : Nat} {s : Rs} (h : RgM w base s) : w.cell? ⟨s.r, 2, none⟩ = some (.pointer s.last) := by rw [cell_of_row _ _ 2 _ _ _ h.cell]; rfl
theorem RgM.keys {w : World} {base : Nat} {s : Rs} (h : RgM w base s) : (s.K.map (·.1)).Nodup := by
  have := h.kl.2.1
  rwa [entK, M.onV_keys] at this
theorem RgM.places {w : World} {base : Nat} {s : Rs} (h : RgM w base s) : (s.P.map (·.1)).Nodup := by
  have := h.pl.2.1
  rwa [entP, M.onV_keys] at this
theorem RgM.apart {w : World} {base : Nat} {s : Rs} (h : RgM w base s) {q : PlK × (Value × List EnV)} (hq : q ∈ s.P) {k : Nat} (hk : q.2.1.ownBlock = some k) : k ∉ s.bl := fun hm => by
  obtain ⟨_, c, hc⟩ := (h.en q hq).1.cells hk
  rcases List.mem_cons.1 hm with rfl | hm
  · have := h.cell; rw [hc] at this; injection this with this; injection this with _ h2 _; revert h2; decide
  rcases List.mem_cons.1 hm with rfl | hm
  · obtain ⟨⟨es, cl, h1, _⟩, _⟩ := h.pl; rw [hc] at h1; cases h1
  rcases List.mem_cons.1 hm with rfl | hm
  · obtain ⟨⟨es, cl, h1, _⟩, _⟩ := h.kl; rw [hc] at h1; cases h1
  · obtain ⟨r, hr, rfl⟩ := List.mem_map.1 hm
    obtain ⟨⟨es, cl, h1, _⟩, _⟩ := h.kr r hr
    rw [hc] at h1; cases h1
section
variable {κ β : Type} [DecidableEq κ]
theorem put_idG {E : List (κ × β)} {k : κ} {v : β} (h : M.look E k = some v) : M.put E k v = E := by
  unfold M.look at h
  unfold M.put
  cases hf : M.fnd E k 0 with
  | none => rw [hf] at h; cases h
  | some q =>
    obtain ⟨i, u⟩ := q
    rw [hf] at h
    cases h
    have e := (M.fnd_some hf).1
    show E.set i (k, _) = E
    apply List.ext_getElem?
    intro j
    rw [List.getElem?_set]
    split
    · next ij =>
      subst ij
      rw [e, if_pos (M.fnd_some hf).2]
    · rfl
theorem put_memG {E : List (κ × β)} {k : κ} {v : β} (hn : (E.map (·.1)).Nodup) {p : κ × β} (hp : p ∈ M.put E k v) : p = (k, v) ∨ (p ∈ E ∧ p.1 ≠ k) := by
  have h := M.look_of_mem (M.put_keys _ _ _ hn) hp
  rw [M.put_look _ _ _ hn] at h
  by_cases e : p.1 = k
  · rw [if_pos e] at h
    obtain ⟨a, b⟩ := p
    simp only at e h
    subst e
    cases h
    exact Or.inl rfl
  · rw [if_neg e] at h
    exact Or.inr ⟨M.look_mem h, e⟩
theorem put_inG {E : List (κ × β)} (k : κ) (v : β) (hn : (E.map (·.1)).Nodup) : (k, v) ∈ M.put E k v := M.look_mem (by rw [M.put_look _ _ _ hn, if_pos rfl])
theorem put_oldG {E : List (κ × β)} {k : κ} (v : β) (hn : (E.map (·.1)).Nodup) {p : κ × β} (hp : p ∈ E) (hk : p.1 ≠ k) : p ∈ M.put E k v :=
  M.look_mem (by rw [M.put_look _ _ _ hn, if_neg hk]; exact M.look_of_mem hn hp)
theorem del_memG {E : List (κ × β)} {k : κ} (hn : (E.map (·.1)).Nodup) {p : κ × β} : p ∈ M.del E k ↔ p ∈ E ∧ p.1 ≠ k := by
  constructor
  · intro hp
    have h := M.look_of_mem (M.del_keys _ k hn) hp
    rw [M.del_look _ _ hn] at h
    by_cases e : p.1 = k
    · rw [if_pos e] at h; cases h
    · rw [if_neg e] at h; exact ⟨M.look_mem h, e⟩
  · rintro ⟨hp, e⟩
    exact M.look_mem (by rw [M.del_look _ _ hn, if_neg e]; exact M.look_of_mem hn hp)
theorem put_newG {E : List (κ × β)} {k : κ} {v : β} (hn : M.look E k = none) : M.put E k v = E ++ [(k, v)] := by
  unfold M.look at hn
  unfold M.put
  cases hf : M.fnd E k 0 with
  | none => rfl
  | some q => rw [hf] at hn; cases hn
theorem del_subG (E : List (κ × β)) (k : κ) : (M.del E k).Sublist E := by
  unfold M.del
  split
  · exact List.eraseIdx_sublist _ _
  · exact List.Sublist.refl _
theorem nodup_injG {α γ : Type} (f : α → γ) : ∀ {l : List α}, (l.map f).Nodup → ∀ a ∈ l, ∀ b ∈ l, f a = f b → a = b
  | [], _, a, ha, _, _, _ => by cases ha
  | x :: l, hn, a, ha, b, hb, e => by
    rw [List.map_cons, List.nodup_cons] at hn
    rcases List.mem_cons.1 ha with h1 | h1
    · rcases List.mem_cons.1 hb with h2 | h2
      · rw [h1, h2]
      · exact absurd (List.mem_map.2 ⟨b, h2, by rw [← e, h1]⟩) hn.1
    · rcases List.mem_cons.1 hb with h2 | h2
      · exact absurd (List.mem_map.2 ⟨a, h1, by rw [e, h2]⟩) hn.1
      · exact nodup_injG f hn.2 a h1 b h2 e
theorem nodup_of_keys {α γ δ : Type} {f : α → γ} {g : α → δ} : ∀ {l : List α}, (l.map f).Nodup → (∀ a ∈ l, ∀ b ∈ l, g a = g b → f a = f b) → (l.map g).Nodup
  | [], _, _ => by simp
  | x :: l, hn, h => by
    rw [List.map_cons, List.nodup_cons] at hn ⊢
    refine ⟨fun hm => ?_, nodup_of_keys hn.2 (fun a ha b hb => h a (List.mem_cons_of_mem _ ha) b (List.mem_cons_of_mem _ hb))⟩
    obtain ⟨y, hy, e⟩ := List.mem_map.1 hm
    exact hn.1 (List.mem_map.2 ⟨y, hy, h y (List.mem_cons_of_mem _ hy) x (List.mem_cons_self ..) e⟩)
theorem look_memI {E : List (κ × β)} {k : κ} : k ∈ E.map (·.1) ↔ (M.look E k).isSome = true := by
  constructor
  · intro h
    obtain ⟨p, hp, rfl⟩ := List.mem_map.1 h
    cases hl : M.look E p.1 with
    | some v => rfl
    | none =>
      unfold M.look at hl
      cases hf : M.fnd E p.1 0 with
      | none => exact absurd rfl (M.fnd_none hf p hp)
      | some q => rw [hf] at hl; cases hl
  · intro h
    obtain ⟨v, hv⟩ := Option.isSome_iff_exists.1 h
    exact List.mem_map.2 ⟨_, M.look_mem hv, rfl⟩
end
theorem entS_keys (l : List ByteArray) : (entS l).map (·.1) = l := by
  unfold entS
  rw [M.onV_keys, List.map_map]
  exact List.map_id _
theorem entS_val (l : List ByteArray) : ∀ p ∈ entS l, p.2 = .agg #[] := by
  intro p hp
  unfold entS M.onV at hp
  rw [List.map_map] at hp
  obtain ⟨k, _, rfl⟩ := List.mem_map.1 hp
  rfl
theorem entS_of {E : List (ByteArray × Value)} (h : ∀ p ∈ E, p.2 = .agg #[]) : E = entS (E.map (·.1)) := by
  unfold entS M.onV
  rw [List.map_map, List.map_map]
  refine (List.map_id _).symm.trans (List.map_congr_left fun p hp => ?_)
  obtain ⟨k, v⟩ := p
  have := h _ hp
  simp only at this
  subst this
  rfl
theorem entS_len (l : List ByteArray) : (entS l).length = l.length := by
  have := congrArg List.length (entS_keys l)
  simpa using this
theorem put_S (l : List ByteArray) (k : ByteArray) (hl : l.Nodup) : ∃ l', M.put (entS l) k (.agg #[]) = entS l' ∧ (∀ x, x ∈ l' ↔ x ∈ l ∨ x = k) := by
  have hk : ((entS l).map (·.1)).Nodup := by rw [entS_keys]; exact hl
  have hE : ∀ p ∈ M.put (entS l) k (.agg #[]), p.2 = .agg #[] := by
    intro p hp
    rcases put_memG hk hp with rfl | ⟨hp, _⟩
    · rfl
    · exact entS_val l p hp
  refine ⟨_, entS_of hE, fun x => ?_⟩
  rw [look_memI, M.put_look _ _ _ hk]
  have a2 : x ∈ l ↔ (M.look (entS l) x).isSome = true := by rw [← look_memI, entS_keys]
  rw [a2]
  by_cases e : x = k
  · simp [e]
  · simp [e]
theorem del_S (l : List ByteArray) (k : ByteArray) (hl : l.Nodup) : ∃ l', M.del (entS l) k = entS l' ∧ ∀ x, x ∈ l' ↔ x ∈ l ∧ x ≠ k := by
  have hk : ((entS l).map (·.1)).Nodup := by rw [entS_keys]; exact hl
  have hE : ∀ p ∈ M.del (entS l) k, p.2 = .agg #[] := fun p hp => entS_val l p ((del_memG hk).1 hp).1
  refine ⟨_, entS_of hE, fun x => ?_⟩
  rw [look_memI, M.del_look _ _ hk]
  have a2 : x ∈ l ↔ (M.look (entS l) x).isSome = true := by rw [← look_memI, entS_keys]
  rw [a2]
  by_cases e : x = k
  · simp [e]
  · simp [e]
theorem Rs.row_bl {s : Rs} {r : IdK × (Nat × List ByteArray)} (hr : r ∈ s.K) : r.2.1 ∈ s.bl :=
  List.mem_cons_of_mem _ (List.mem_cons_of_mem _ (List.mem_cons_of_mem _ (List.mem_map.2 ⟨r, hr, rfl⟩)))
section
variable {w w' : World} {base : Nat} {s : Rs}
theorem RgM.bne (h : RgM w base s) {r : IdK × (Nat × List ByteArray)} (hr : r ∈ s.K) : r.2.1 ≠ s.r ∧ r.2.1 ≠ s.bp ∧ r.2.1 ≠ s.bk := by
  have hd := h.dis
  have hm : r.2.1 ∈ s.K.map (·.2.1) := List.mem_map.2 ⟨r, hr, rfl⟩
  unfold Rs.bl at hd
  simp only [List.nodup_cons, List.mem_cons, not_or] at hd
  exact ⟨fun e => hd.1.2.2 (e ▸ hm), fun e => hd.2.1.2 (e ▸ hm), fun e => hd.2.2.1 (e ▸ hm)⟩
theorem RgM.tbl (h : RgM w base s) : s.r ≠ s.bp ∧ s.r ≠ s.bk ∧ s.bp ≠ s.bk ∧ (s.K.map (·.2.1)).Nodup := by
  have hd := h.dis
  unfold Rs.bl at hd
  simp only [List.nodup_cons, List.mem_cons, not_or] at hd
  exact ⟨hd.1.1, hd.1.2.1, hd.2.1.1, hd.2.2.2⟩
theorem RgM.nodup (h : RgM w base s) {r : IdK × (Nat × List ByteArray)} (hr : r ∈ s.K) : r.2.2.Nodup := by
  have := (h.kr r hr).2.1
  rwa [entS_keys] at this
theorem RgM.setRow (h : RgM w base s) {u : IdK} {b : Nat} {l l' : List ByteArray} (hq : (u, (b, l)) ∈ s.K) (hw : ∀ j, j ≠ b → w'.heap[j]? = w.heap[j]?) (hm : M.MapAt w' b tx txOk (entS l')) : RgM w' base { s with K := M.put s.K u (b, l') } := by
  obtain ⟨n1, n2, n3⟩ := h.bne hq
  have hk := h.keys
  have e1 : entK (M.put s.K u (b, l')) = entK s.K := by
    unfold entK
    rw [← M.put_on]
    refine put_idG ?_
    rw [M.look_on, M.look_of_mem hk hq]
    rfl
  have e2 : (M.put s.K u (b, l')).map (·.2.1) = s.K.map (·.2.1) := by
    have : M.onV (·.1) (M.put s.K u (b, l')) = M.onV (·.1) s.K := by
      rw [← M.put_on]
      refine put_idG ?_
      rw [M.look_on, M.look_of_mem hk hq]
      rfl
    have := congrArg (fun E => E.map (·.2)) this
    simpa [M.onV, Function.comp_def] using this
  have ebl : ({ s with K := M.put s.K u (b, l') } : Rs).bl = s.bl := by unfold Rs.bl; simp only [e2]
  refine ⟨(hw _ (Ne.symm n1)).trans h.cell, h.pl.below (hw _ (Ne.symm n2)), ?_, ?_, fun q hq' => ⟨(h.en q hq').1.keep (fun k hk' => hw k (fun e => h.apart hq' hk' (by rw [e]; exact Rs.row_bl hq))), (h.en q hq').2⟩, by rw [ebl]; exact h.dis, h.ead, by rw [ebl]; exact h.lo⟩
  · show M.MapAt w' s.bk IdK.v IdK.ok (entK (M.put s.K u (b, l')))
    rw [e1]
    exact h.kl.below (hw _ (Ne.symm n3))
  · intro r hr
    rcases put_memG hk hr with rfl | ⟨hr, hn⟩
    · exact hm
    · refine (h.kr r hr).below (hw _ (fun e => hn ?_))
      rw [nodup_injG (·.2.1) h.tbl.2.2.2 r hr _ hq e]
theorem RgM.delRow (h : RgM w base s) {u : IdK} (hw : ∀ j, j ≠ s.bk → w'.heap[j]? = w.heap[j]?) (hm : M.MapAt w' s.bk IdK.v IdK.ok (M.del (entK s.K) u)) : RgM w' base { s with K := M.del s.K u } := by
  have hk := h.keys
  have hsub : ({ s with K := M.del s.K u } : Rs).bl.Sublist s.bl := by
    show (s.r :: s.bp :: s.bk :: (M.del s.K u).map (·.2.1)).Sublist (s.r :: s.bp :: s.bk :: s.K.map (·.2.1))
    exact List.Sublist.cons_cons _ (List.Sublist.cons_cons _ (List.Sublist.cons_cons _ (List.Sublist.map _ (del_subG _ _))))
  refine ⟨(hw _ h.tbl.2.1).trans h.cell, h.pl.below (hw _ h.tbl.2.2.1), ?_, ?_, fun q hq' => ⟨(h.en q hq').1.keep (fun k hk' => hw k (fun e => h.apart hq' hk' (by rw [e]; simp [Rs.bl]))), (h.en q hq').2⟩, h.dis.sublist hsub, h.ead, fun j hj => h.lo j (hsub.subset hj)⟩
  · show M.MapAt w' s.bk IdK.v IdK.ok (entK (M.del s.K u))
    rw [entK, ← M.del_on]
    exact hm
  · intro r hr
    have hr' := ((del_memG hk).1 hr).1
    exact (h.kr r hr').below (hw _ (h.bne hr').2.2)
theorem RgM.newRow (h : RgM w base s) {u : IdK} {b : Nat} (hn : M.look s.K u = none) (hb : b ∉ s.bl) (hbb : base ≤ b) (hw : ∀ j, j < w.heap.size → j ≠ s.bk → w'.heap[j]? = w.heap[j]?) (hm : M.MapAt w' s.bk IdK.v IdK.ok (M.put (entK s.K) u (.map (some b)))) {l : List ByteArray} (hl : M.MapAt w' b tx txOk (entS l)) : RgM w' base { s with K := M.put s.K u (b, l) } := by
  have hk := h.keys
  have e2 : M.put s.K u (b, l) = s.K ++ [(u, (b, l))] := put_newG hn
  have ebl : ({ s with K := M.put s.K u (b, l) } : Rs).bl = s.bl ++ [b] := by
    show s.r :: s.bp :: s.bk :: (M.put s.K u (b, l)).map (·.2.1) = _
    rw [e2, List.map_append]; rfl
  have old : ∀ j ∈ s.bl, j ≠ s.bk → w'.heap[j]? = w.heap[j]? := fun j hj hne => hw j (h.lt j hj) hne
  refine ⟨(old _ (by simp [Rs.bl]) h.tbl.2.1).trans h.cell, h.pl.below (old _ (by simp [Rs.bl]) h.tbl.2.2.1), ?_, ?_, fun q hq' => ⟨(h.en q hq').1.keep (fun k hk' => hw k ((h.en q hq').1.lt hk') (fun e => h.apart hq' hk' (by rw [e]; simp [Rs.bl]))), (h.en q hq').2⟩, ?_, h.ead, ?_⟩
  · show M.MapAt w' s.bk IdK.v IdK.ok (entK (M.put s.K u (b, l)))
    rw [entK, ← M.put_on]
    exact hm
  · intro r hr
    rcases put_memG hk hr with rfl | ⟨hr, _⟩
    · exact hl
    · exact (h.kr r hr).below (old _ (Rs.row_bl hr) (h.bne hr).2.2)
  · rw [ebl]
    refine List.nodup_append.2 ⟨h.dis, by simp, ?_⟩
    intro a ha c hc e
    simp at hc
    subst hc
    subst e
    exact hb ha
  · rw [ebl]
    intro j hj
    rcases List.mem_append.1 hj with q | q
    · exact h.lo j q
    · simp at q; rw [q]; exact hbb
theorem RgM.setP (h : RgM w base s) {p : PlK} {v : Value} {L : List EnV} (hw : ∀ j, j ≠ s.bp → w'.heap[j]? = w.heap[j]?) (hm : M.MapAt w' s.bp PlK.v PlK.ok (M.put (entP s.P) p v)) (hv : RN.Lo w' base v L) (hne : L ≠ []) (ok : ∀ x ∈ L, x.ok) (hap : ∀ q ∈ s.P, q.1 ≠ p → q.2.1.ownBlock ≠ v.ownBlock) : RgM w' base { s with P := M.put s.P p (v, L) } := by
  have hk := h.places
  refine ⟨(hw _ h.tbl.1).trans h.cell, ?_, h.kl.below (hw _ (Ne.symm h.tbl.2.2.1)), fun r hr => (h.kr r hr).below (hw _ (h.bne hr).2.1), ?_, h.dis, ?_, h.lo⟩
  · show M.MapAt w' s.bp PlK.v PlK.ok (entP (M.put s.P p (v, L)))
    rw [entP, ← M.put_on]
    exact hm
  · intro q hq
    rcases put_memG hk hq with rfl | ⟨hq, _⟩
    · exact ⟨hv, hne, ok⟩
    · exact ⟨(h.en q hq).1.keep (fun k hk' => hw k (fun e => h.apart hq hk' (by rw [e]; simp [Rs.bl]))), (h.en q hq).2⟩
  · show ((M.put s.P p (v, L)).map (·.2.1.ownBlock)).Nodup
    have hkeys := M.put_keys s.P p (v, L) hk
    have key : ∀ a ∈ M.put s.P p (v, L), ∀ b ∈ M.put s.P p (v, L), a.2.1.ownBlock = b.2.1.ownBlock → a.1 = b.1 := fun a ha b hb e => by
      rcases put_memG hk ha with rfl | ⟨ha, na⟩
      · rcases put_memG hk hb with rfl | ⟨hb, nb⟩
        · rfl
        · exact absurd e.symm (hap b hb nb)
      · rcases put_memG hk hb with rfl | ⟨hb, nb⟩
        · exact absurd e (hap a ha na)
        · rw [nodup_injG (·.2.1.ownBlock) h.ead a ha b hb e]
    exact nodup_of_keys (f := fun q : PlK × (Value × List EnV) => q.1) (g := fun q : PlK × (Value × List EnV) => q.2.1.ownBlock) hkeys key
theorem RgM.delP (h : RgM w base s) {p : PlK} (hw : ∀ j, j ≠ s.bp → w'.heap[j]? = w.heap[j]?) (hm : M.MapAt w' s.bp PlK.v PlK.ok (M.del (entP s.P) p)) : RgM w' base { s with P := M.del s.P p } := by
  have hk := h.places
  refine ⟨(hw _ h.tbl.1).trans h.cell, ?_, h.kl.below (hw _ (Ne.symm h.tbl.2.2.1)), fun r hr => (h.kr r hr).below (hw _ (h.bne hr).2.1), ?_, h.dis, h.ead.sublist (List.Sublist.map _ (del_subG _ _)), h.lo⟩
  · show M.MapAt w' s.bp PlK.v PlK.ok (entP (M.del s.P p))
    rw [entP, ← M.del_on]
    exact hm
  · intro q hq
    have hq' := ((del_memG hk).1 hq).1
    exact ⟨(h.en q hq').1.keep (fun k hk' => hw k (fun e => h.apart hq' hk' (by rw [e]; simp [Rs.bl]))), (h.en q hq').2⟩
end
def KHas (K : List (IdK × (Nat × List ByteArray))) (o : IdK) (k : ByteArray) : Prop := ∃ b l, (o, (b, l)) ∈ K ∧ k ∈ l
theorem khas_put {K : List (IdK × (Nat × List ByteArray))} (hn : (K.map (·.1)).Nodup) {u : IdK} {b : Nat} {l : List ByteArray} (o : IdK) (k : ByteArray) : KHas (M.put K u (b, l)) o k ↔ (o = u ∧ k ∈ l) ∨ (o ≠ u ∧ KHas K o k) := by
  constructor
  · rintro ⟨b', l', h, hk⟩
    rcases put_memG hn h with e | ⟨h, hne⟩
    · cases e; exact .inl ⟨rfl, hk⟩
    · exact .inr ⟨hne, b', l', h, hk⟩
  · rintro (⟨rfl, hk⟩ | ⟨hne, b', l', h, hk⟩)
    · exact ⟨b, l, put_inG _ _ hn, hk⟩
    · exact ⟨b', l', put_oldG _ hn h hne, hk⟩
theorem khas_del {K : List (IdK × (Nat × List ByteArray))} (hn : (K.map (·.1)).Nodup) {u : IdK} (o : IdK) (k : ByteArray) : KHas (M.del K u) o k ↔ o ≠ u ∧ KHas K o k := by
  constructor
  · rintro ⟨b', l', h, hk⟩
    obtain ⟨h, hne⟩ := (del_memG hn).1 h
    exact ⟨hne, b', l', h, hk⟩
  · rintro ⟨hne, b', l', h, hk⟩
    exact ⟨b', l', (del_memG hn).2 ⟨h, hne⟩, hk⟩
theorem khas_of {K : List (IdK × (Nat × List ByteArray))} (hn : (K.map (·.1)).Nodup) {u : IdK} {b : Nat} {l : List ByteArray} (h : (u, (b, l)) ∈ K) (k : ByteArray) : KHas K u k ↔ k ∈ l := by
  constructor
  · rintro ⟨b', l', h', hk⟩
    have := (M.look_of_mem hn h).symm.trans (M.look_of_mem hn h')
    cases this
    exact hk
  · exact fun hk => ⟨b, l, h, hk⟩
theorem khas_no {K : List (IdK × (Nat × List ByteArray))} (hn : (K.map (·.1)).Nodup) {u : IdK} (h : M.look K u = none) (k : ByteArray) : ¬ KHas K u k := by
  rintro ⟨b', l', h', hk⟩
  rw [M.look_of_mem hn h'] at h; cases h
def Full (K : List (IdK × (Nat × List ByteArray))) : Prop := ∀ q ∈ K, q.2.2 ≠ []
structure KeysOk (K : List (IdK × (Nat × List ByteArray))) (P : List (PlK × (Value × List EnV))) : Prop where
  full : Full K
  mem : ∀ o k, KHas K o k ↔ (M.look P ⟨o, k, zId⟩).isSome = true
theorem zeroIm (w : World) : (zeroValue 97).run Tryd.prog w = .ok (.map none) w := by kernel_rfl
theorem zeroEl (w : World) : (zeroValue 60).run Tryd.prog w = .ok (.slice none 0 0) w := by kernel_rfl
section
variable {w w' : World} {base : Nat} {s : Rs}
theorem RgM.lookK (h : RgM w base s) (u : IdK) (hu : u.ok) : (Instr.lookup 82 (.map (some s.bk)) u.v false).run Tryd.prog w = .ok (.map ((M.look s.K u).map (·.1))) w := by
  rw [M.run_look idKey Tryd.underlying82 h.kl u hu (zeroIm w) false, entK, M.look_on]
  cases M.look s.K u <;> rfl
def lvOf (P : List (PlK × (Value × List EnV))) (p : PlK) : Value := ((M.look P p).map (·.1)).getD (.slice none 0 0)
def liOf (P : List (PlK × (Value × List EnV))) (p : PlK) : List EnV := ((M.look P p).map (·.2)).getD []
theorem RgM.lookP (h : RgM w base s) (p : PlK) (hp : p.ok) : (Instr.lookup 81 (.map (some s.bp)) p.v false).run Tryd.prog w = .ok (lvOf s.P p) w := by
  rw [M.run_look plKey Tryd.underlying81 h.pl p hp (zeroEl w) false, entP, M.look_on]
  rfl
theorem RgM.list (h : RgM w base s) (p : PlK) : RN.Lo w base (lvOf s.P p) (liOf s.P p) ∧ ∀ x ∈ liOf s.P p, x.ok := by
  unfold lvOf liOf
  cases hl : M.look s.P p with
  | none => exact ⟨RowT.lo_nil RN w base, fun x hx => by cases hx⟩
  | some q =>
    have := h.en _ (M.look_mem hl)
    exact ⟨this.1, this.2.2⟩
end
def KMore (K : List (IdK × (Nat × List ByteArray))) (p : PlK) (o : IdK) (k : ByteArray) : Prop := KHas K o k ∨ (p.a = zId ∧ o = p.o ∧ k = p.k)
def KLess (K : List (IdK × (Nat × List ByteArray))) (p : PlK) (o : IdK) (k : ByteArray) : Prop := KHas K o k ∧ ¬ (p.a = zId ∧ o = p.o ∧ k = p.k)
structure KNxt (w : World) (base : Nat) (s : Rs) (Q : IdK → ByteArray → Prop) (w' : World) : Prop where
  ex : ∃ K', RgM w' base { s with K := K' } ∧ (Full s.K → Full K') ∧ (∀ o k, KHas K' o k ↔ Q o k) ∧ ∀ j ∈ K'.map (·.2.1), j ∈ s.bl ∨ w.heap.size ≤ j
  tch : Tch (fun j => j ∈ s.bl) w w'
theorem tch_of {w w' : World} (h : Below w.heap.size w w') (O : Nat → Prop) : Tch O w w' := Tch.of_below h (fun k hk hb => by omega)
theorem setM_tch (w : World) (b : Nat) (o : Obj) : Tch (fun j => j = b) w (M.setM w b o) := ⟨rfl, rfl, rfl, by rw [M.setM_size]; exact Nat.le_refl _, fun j _ hj => M.setM_other o hj⟩
theorem drop_im (w : World) (k : ByteArray) (ty : TypeId) : (Builtin.delete_ #[97, 9] ty #[.map none, .string k]).run Tryd.prog w = .ok (.tuple #[]) w := by
  have hc := MapKept.run_checkKey (P := Tryd.prog) (w := w) (d := .string) (k := .string k) Tryd.underlying9 trivial true 9999
  simp [Builtin.delete_, run_underlying Tryd.underlying97, hc, Result.andThen]
theorem note_any {w : World} {base : Nat} {s : Rs} (h : RgM w base s) (hb : base ≤ w.heap.size) {p : PlK} (hp : p.ok) :
    Calls Tryd.prog 72 #[.pointer (some ⟨s.r, 0, none⟩), p.v] w fun e w' => e = .returned (.tuple #[]) ∧ KNxt w base s (KMore s.K p) w' := by
  have hk := h.keys
  have b1 : Below w.heap.size w (w.alloc (.cells p.c.toArray 52)) := (Below.refl _ _).alloc (Nat.le_refl _) _
  have bx1 : (w.alloc (.cells p.c.toArray 52)).rangeAt w.heap.size 0 p.c := range_box w p.c _
  have z1 : (w.alloc (.cells p.c.toArray 52)).heap.size = w.heap.size + 1 := by simp
  have h1 := h.below b1
  obtain ⟨w1, hw1⟩ : ∃ w1, w.alloc (.cells p.c.toArray 52) = w1 := ⟨_, rfl⟩
  have EB := hidMk (show (Instr.box 52 p.v).run Tryd.prog w = .ok (.pointer (some ⟨w.heap.size, 0, none⟩)) w1 by rw [run_box, ← hw1]; rfl)
  rw [hw1] at b1 bx1 z1 h1
  clear hw1
  have rs1 : RS s.r s.bp s.bk w.heap.size p w1 := ⟨h1.c0, h1.c1, bx1⟩
  by_cases hz : p.a = zId
  · -- keys are kept
    have hr : decide (p.a ≠ zId) = false := by simp [hz]
    have inner : ∀ (K2 : List (IdK × (Nat × List ByteArray))) (W : World) (ib : Nat) (l : List ByteArray), RgM W base { s with K := K2 } → (p.o, (ib, l)) ∈ K2 → (∀ j ∈ K2.map (·.2.1), j ∈ s.bl ∨ w.heap.size ≤ j) → Tch (fun j => j ∈ s.bl) w W → (∀ o k, KHas K2 o k ↔ KHas s.K o k) → (Full s.K → ∀ q ∈ K2, q.1 ≠ p.o → q.2.2 ≠ []) →
        ∃ w3, (Instr.mapUpdate 97 (.map (some ib)) (.string p.k) (.agg #[])).run Tryd.prog W = .ok () w3 ∧ KNxt w base s (KMore s.K p) w3 := by
      intro K2 W ib l hW hq hbl htc hkh hfull
      have hk2 : (K2.map (·.1)).Nodup := hW.keys
      have hm := hW.kr _ hq
      obtain ⟨ob, eu, hm3⟩ := M.run_put txKey Tryd.underlying97 hm p.k hp.k (.agg #[])
      obtain ⟨l', el, hl'⟩ := put_S l p.k (hW.nodup hq)
      rw [el] at hm3
      refine ⟨M.setM W ib ob, eu, ⟨M.put K2 p.o (ib, l'), hW.setRow hq (fun j hj => M.setM_other ob hj) hm3, ?_, ?_, ?_⟩, ?_⟩
      · intro hf q hq'
        rcases put_memG hk2 hq' with rfl | ⟨hq', hne⟩
        · intro e
          have := (hl' p.k).2 (Or.inr rfl)
          simp only at e
          rw [e] at this; cases this
        · exact hfull hf q hq' hne
      · intro o k
        rw [khas_put hk2]
        constructor
        · rintro (⟨rfl, hk'⟩ | ⟨hne, hk'⟩)
          · rcases (hl' k).1 hk' with q | q
            · exact .inl ((hkh _ _).1 ((khas_of hk2 hq k).2 q))
            · exact .inr ⟨hz, rfl, q⟩
          · exact .inl ((hkh _ _).1 hk')
        · rintro (hk' | ⟨_, rfl, rfl⟩)
          · by_cases e : o = p.o
            · subst e
              exact .inl ⟨rfl, (hl' k).2 (.inl ((khas_of hk2 hq k).1 ((hkh _ _).2 hk')))⟩
            · exact .inr ⟨e, (hkh _ _).2 hk'⟩
          · exact .inl ⟨rfl, (hl' _).2 (.inr rfl)⟩
      · intro j hj
        obtain ⟨q, hq', rfl⟩ := List.mem_map.1 hj
        rcases put_memG hk2 hq' with rfl | ⟨hq', _⟩
        · exact hbl _ (List.mem_map.2 ⟨_, hq, rfl⟩)
        · exact hbl _ (List.mem_map.2 ⟨_, hq', rfl⟩)
      · refine htc.trans' (setM_tch W ib ob) (fun j hj e => ?_)
        rcases hbl ib (List.mem_map.2 ⟨_, hq, rfl⟩) with q | q
        · rw [e]; exact q
        · omega
    have INN := hidMk inner
    have H1 := hidMk h1
    have HR := hidMk hr
    have T1 : Hid (Tch (fun j => j ∈ s.bl) w w1) := tch_of b1 _
    clear inner
    cases hl : M.look s.K p.o with
    | some q =>
      obtain ⟨ib, l⟩ := q
      have LK : ∀ W, W = w1.drew → (Instr.lookup 82 (.map (some s.bk)) p.o.v false).run Tryd.prog W = .ok (.map (some ib)) W := fun W e => by
        rw [e]
        have := (h1.below (Below.refl w1.heap.size w1).drew).lookK p.o hp.o
        rw [hl] at this
        exact this
      obtain ⟨w3, eu, nx⟩ := INN.out s.K w1.drew.drew ib l (h1.below ((Below.refl w1.heap.size w1).drew.drew)) (M.look_mem hl) (fun j hj => .inl (List.mem_cons_of_mem _ (List.mem_cons_of_mem _ (List.mem_cons_of_mem _ hj)))) (T1.out.trans' (tch_of ((Below.refl w1.heap.size w1).drew.drew) (fun _ => False)) (fun j _ q => q.elim)) (fun o k => Iff.rfl) (fun hf q hq _ => hf q hq)
      have EU := hidMk eu
      have NX := hidMk nx
      have HLK := hidMk LK
      have HL2 := hidMk (fun W (e : W = w1.drew.drew) => show (Instr.lookup 82 (.map (some s.bk)) p.o.v false).run Tryd.prog W = .ok (.map (some ib)) W by
        rw [e]
        have := (h1.below (Below.refl w1.heap.size w1).drew.drew).lookK p.o hp.o
        rw [hl] at this
        exact this)
      have rsd : RS s.r s.bp s.bk w.heap.size p w1.drew := rs1.drew
      have rsdd : RS s.r s.bp s.bk w.heap.size p w1.drew.drew := rs1.drew.drew
      clear eu nx LK hl h h1 hk hr
      go_enter Tryd.func72, Tryd.ntmps72
      go_upto_region 1 with (first
        | (refine wpList_run rfl (exec_boxE (t := 52) (v := p.v) (u := .pointer (some ⟨w.heap.size, 0, none⟩)) (w2 := w1) rfl rfl EB.out) ?_)
        | fail)
      refine note1 (pb := w.heap.size) (p := p) (r := false) _ w1 _ rfl rfl hp bx1 HR.out ?_
      intro a' w' hw' ha
      subst ha
      obtain rfl : w1 = w' := hw'.symm
      simp only [Act.put, List.setIfInBounds_toArray, List.set_cons_zero, List.set_cons_succ]
      go_upto_region 2 with fail
      refine note2 (rb := s.r) (mb := s.bp) (kb := s.bk) (pb := w.heap.size) (p := p) (im := some ib) (r := false) _ w1 _ rfl rfl rfl hp rsd HLK.out rfl ?_
      intro a' w' hw' ha
      subst ha
      obtain rfl : w1.drew = w' := hw'.symm
      simp only [Act.put, List.setIfInBounds_toArray, List.set_cons_zero, List.set_cons_succ]
      go_upto_region 4 with fail
      refine note4 (rb := s.r) (mb := s.bp) (kb := s.bk) (pb := w.heap.size) (p := p) (ib := ib) (w2 := w3) _ w1.drew _ rfl rfl rfl hp rsdd HL2.out EU.out ?_
      intro a' w' hw' ha
      subst ha
      obtain rfl : w3 = w' := hw'.symm
      simp only [Act.put, List.setIfInBounds_toArray, List.set_cons_zero, List.set_cons_succ]
      go_end0
      exact ⟨rfl, NX.out⟩
    | none =>
      have hd := h1.below (Below.refl w1.heap.size w1).drew.drew
      have LK : ∀ W, W = w1.drew → (Instr.lookup 82 (.map (some s.bk)) p.o.v false).run Tryd.prog W = .ok (.map none) W := fun W e => by
        rw [e]
        have := (h1.below (Below.refl w1.heap.size w1).drew).lookK p.o hp.o
        rw [hl] at this
        exact this
      obtain ⟨w2, hw2⟩ : ∃ w2, w1.drew.drew.alloc (.map #[] 0) = w2 := ⟨_, rfl⟩
      have b2 : Below w1.heap.size w1.drew.drew w2 := by rw [← hw2]; exact (Below.refl w1.heap.size w1.drew.drew).alloc (Nat.le_refl _) _
      have EM := hidMk (show (Instr.makeMap 97 none).run Tryd.prog w1.drew.drew = .ok (.map (some w1.heap.size)) w2 by rw [mk_map, hw2]; rfl)
      have m2 : M.MapAt w2 w1.heap.size tx txOk (entS []) := by rw [← hw2]; exact M.MapAt.new _ _ _
      have h2 := hd.below b2
      obtain ⟨ob, eu, hm3⟩ := M.run_put idKey Tryd.underlying82 h2.kl p.o hp.o (.map (some w1.heap.size))
      have lbk : s.bk < w1.heap.size := h1.lt s.bk (by simp [Rs.bl])
      have h3 : RgM (M.setM w2 s.bk ob) base { s with K := M.put s.K p.o (w1.heap.size, []) } := h2.newRow hl (fun hm => by have := h1.lt _ hm; omega) (by have := b1.size; omega) (fun j hj hne => M.setM_other ob hne) hm3 (l := []) (m2.below (M.setM_other ob (by omega)))
      have t3 : Tch (fun j => j ∈ s.bl) w (M.setM w2 s.bk ob) := (T1.out.trans' (tch_of (((Below.refl w1.heap.size w1).drew.drew).trans b2) (fun _ => False)) (fun j _ q => q.elim)).trans' (setM_tch w2 s.bk ob) (fun j _ e => by rw [e]; simp [Rs.bl])
      have rs2 : RS s.r s.bp s.bk w.heap.size p w2 := ⟨h2.c0, h2.c1, rangeAt_keep bx1 (b2.block _ (by omega))⟩
      have hi3 : (p.o, (w1.heap.size, ([] : List ByteArray))) ∈ M.put s.K p.o (w1.heap.size, []) := put_inG _ _ hk
      have lk3 := hidMk (fun W (e : W = (M.setM w2 s.bk ob).drew) => show (Instr.lookup 82 (.map (some s.bk)) p.o.v false).run Tryd.prog W = .ok (.map (some w1.heap.size)) W by
        rw [e]
        have := (h3.below (Below.refl (M.setM w2 s.bk ob).heap.size _).drew).lookK p.o hp.o
        rw [M.look_of_mem (M.put_keys _ _ _ hk) hi3] at this
        exact this)
      have rs3 : RS s.r s.bp s.bk w.heap.size p (M.setM w2 s.bk ob) := ⟨h3.c0, h3.c1, rangeAt_keep rs2.pl (M.setM_other ob (by have := h.lt s.bk (by simp [Rs.bl]); omega))⟩
      obtain ⟨w4, eu4, nx⟩ := INN.out (M.put s.K p.o (w1.heap.size, [])) (M.setM w2 s.bk ob).drew w1.heap.size [] (h3.below (Below.refl (M.setM w2 s.bk ob).heap.size _).drew) hi3 (fun j hj => by
        obtain ⟨q, hq, rfl⟩ := List.mem_map.1 hj
        rcases put_memG hk hq with rfl | ⟨hq, _⟩
        · right; show w.heap.size ≤ w1.heap.size; omega
        · exact .inl (Rs.row_bl hq)) (t3.trans' (tch_of (Below.refl (M.setM w2 s.bk ob).heap.size _).drew (fun _ => False)) (fun j _ q => q.elim)) (fun o k => by
        rw [khas_put hk]
        constructor
        · rintro (⟨_, hk'⟩ | ⟨_, hk'⟩)
          · cases hk'
          · exact hk'
        · intro hk'
          exact .inr ⟨fun e => khas_no hk hl k (e ▸ hk'), hk'⟩) (fun hf q hq hne => by
        rcases put_memG hk hq with rfl | ⟨hq, _⟩
        · exact absurd rfl hne
        · exact hf q hq)
      have EU := hidMk eu
      have EU4 := hidMk eu4
      have NX := hidMk nx
      have HLK := hidMk LK
      have rsd : RS s.r s.bp s.bk w.heap.size p w1.drew := rs1.drew
      have rsdd : RS s.r s.bp s.bk w.heap.size p w1.drew.drew := rs1.drew.drew
      have rs3d : RS s.r s.bp s.bk w.heap.size p (M.setM w2 s.bk ob).drew := rs3.drew
      clear eu eu4 nx LK hl h h1 hk hr h2 h3 t3 hi3 hm3 m2 hd rs3 rs1 hw2 b2
      obtain ⟨w3, hw3⟩ : ∃ w3, M.setM w2 s.bk ob = w3 := ⟨_, rfl⟩
      rw [hw3] at EU EU4 lk3 rs3d
      clear hw3
      go_enter Tryd.func72, Tryd.ntmps72
      go_upto_region 1 with (first
        | (refine wpList_run rfl (exec_boxE (t := 52) (v := p.v) (u := .pointer (some ⟨w.heap.size, 0, none⟩)) (w2 := w1) rfl rfl EB.out) ?_)
        | fail)
      refine note1 (pb := w.heap.size) (p := p) (r := false) _ w1 _ rfl rfl hp bx1 HR.out ?_
      intro a' w' hw' ha
      subst ha
      obtain rfl : w1 = w' := hw'.symm
      simp only [Act.put, List.setIfInBounds_toArray, List.set_cons_zero, List.set_cons_succ]
      go_upto_region 2 with fail
      refine note2 (rb := s.r) (mb := s.bp) (kb := s.bk) (pb := w.heap.size) (p := p) (im := none) (r := true) _ w1 _ rfl rfl rfl hp rsd HLK.out rfl ?_
      intro a' w' hw' ha
      subst ha
      obtain rfl : w1.drew = w' := hw'.symm
      simp only [Act.put, List.setIfInBounds_toArray, List.set_cons_zero, List.set_cons_succ]
      go_upto_region 3 with fail
      refine note3 (rb := s.r) (mb := s.bp) (kb := s.bk) (pb := w.heap.size) (p := p) (ib := w1.heap.size) (w1 := w2) (w2 := w3) _ w1.drew _ rfl rfl rfl hp rsdd EM.out rs2 EU.out ?_
      intro a' w' hw' ha
      subst ha
      obtain rfl : w3 = w' := hw'.symm
      simp only [Act.put, List.setIfInBounds_toArray, List.set_cons_zero, List.set_cons_succ]
      go_upto_region 4 with fail
      refine note4 (rb := s.r) (mb := s.bp) (kb := s.bk) (pb := w.heap.size) (p := p) (ib := w1.heap.size) (w2 := w4) _ w3 _ rfl rfl rfl hp rs3d lk3.out EU4.out ?_
      intro a' w' hw' ha
      subst ha
      obtain rfl : w4 = w' := hw'.symm
      simp only [Act.put, List.setIfInBounds_toArray, List.set_cons_zero, List.set_cons_succ]
      go_end0
      exact ⟨rfl, NX.out⟩
  · have hr : decide (p.a ≠ zId) = true := by simp [hz]
    have HR := hidMk hr
    have NX : Hid (KNxt w base s (KMore s.K p) w1) := ⟨⟨s.K, h1, fun hf => hf, fun o k => ⟨fun q => .inl q, fun q => q.elim id (fun e => absurd e.1 hz)⟩, fun j hj => .inl (List.mem_cons_of_mem _ (List.mem_cons_of_mem _ (List.mem_cons_of_mem _ hj)))⟩, tch_of b1 _⟩
    clear h h1 hk hr hz
    go_enter Tryd.func72, Tryd.ntmps72
    go_upto_region 1 with (first
      | (refine wpList_run rfl (exec_boxE (t := 52) (v := p.v) (u := .pointer (some ⟨w.heap.size, 0, none⟩)) (w2 := w1) rfl rfl EB.out) ?_)
      | fail)
    refine note1 (pb := w.heap.size) (p := p) (r := true) _ w1 _ rfl rfl hp bx1 HR.out ?_
    intro a' w' hw' ha
    subst ha
    obtain rfl : w1 = w' := hw'.symm
    simp only [Act.put, List.setIfInBounds_toArray, List.set_cons_zero, List.set_cons_succ]
    go_wp2
    try simp only [Exit.inBlock, Exit.then]
    refine bodyPost_ret (results_none rfl _ _ _) rfl ?_
    exact ⟨rfl, NX.out⟩
theorem len_im0 (ty : TypeId) (w : World) : (Builtin.len_ #[97] ty #[.map none]).run Tryd.prog w = .ok (.int .i64 0) w := Maps.len_nil Tryd.underlying97 ty
theorem forget_any {w : World} {base : Nat} {s : Rs} (h : RgM w base s) (hb : base ≤ w.heap.size) (hfull : Full s.K) {p : PlK} (hp : p.ok) :
    Calls Tryd.prog 71 #[.pointer (some ⟨s.r, 0, none⟩), p.v] w fun e w' => e = .returned (.tuple #[]) ∧ KNxt w base s (KLess s.K p) w' := by
  have hk := h.keys
  have b1 : Below w.heap.size w (w.alloc (.cells p.c.toArray 52)) := (Below.refl _ _).alloc (Nat.le_refl _) _
  have bx1 : (w.alloc (.cells p.c.toArray 52)).rangeAt w.heap.size 0 p.c := range_box w p.c _
  have z1 : (w.alloc (.cells p.c.toArray 52)).heap.size = w.heap.size + 1 := by simp
  have h1 := h.below b1
  obtain ⟨w1, hw1⟩ : ∃ w1, w.alloc (.cells p.c.toArray 52) = w1 := ⟨_, rfl⟩
  have EB := hidMk (show (Instr.box 52 p.v).run Tryd.prog w = .ok (.pointer (some ⟨w.heap.size, 0, none⟩)) w1 by rw [run_box, ← hw1]; rfl)
  rw [hw1] at b1 bx1 z1 h1
  clear hw1
  have rs1 : RS s.r s.bp s.bk w.heap.size p w1 := ⟨h1.c0, h1.c1, bx1⟩
  have lbk : s.bk < w.heap.size := h.lt s.bk (by simp [Rs.bl])
  by_cases hz : p.a = zId
  · have hr : decide (p.a ≠ zId) = false := by simp [hz]
    have HR := hidMk hr
    have T1 : Hid (Tch (fun j => j ∈ s.bl) w w1) := tch_of b1 _
    obtain ⟨im, K2, w2, n, ED, h2, t2, lk1, lk2, ln2, kh2, fu2, bl2, emp⟩ : ∃ (im : Option Nat) (K2 : List (IdK × (Nat × List ByteArray))) (w2 : World) (n : Nat), (∀ ty, (Builtin.delete_ #[97, 9] ty #[.map im, .string p.k]).run Tryd.prog w1.drew = .ok (.tuple #[]) w2) ∧ RgM w2 base { s with K := K2 } ∧ Tch (fun j => j ∈ s.bl) w1.drew w2 ∧
        (∀ W, W = w1.drew → (Instr.lookup 82 (.map (some s.bk)) p.o.v false).run Tryd.prog W = .ok (.map im) W) ∧ (∀ W, W = w2.drew → (Instr.lookup 82 (.map (some s.bk)) p.o.v false).run Tryd.prog W = .ok (.map im) W) ∧ (∀ ty W, W = w2.drew → (Builtin.len_ #[97] ty #[.map im]).run Tryd.prog W = .ok (.int .i64 (n : Int)) W) ∧
        (∀ o k, KHas K2 o k ↔ KHas s.K o k ∧ ¬ (o = p.o ∧ k = p.k)) ∧ (∀ q ∈ K2, q.1 ≠ p.o → q.2.2 ≠ []) ∧ (∀ j ∈ K2.map (·.2.1), j ∈ s.bl) ∧ ((n = 0 ∧ ∀ k, ¬ KHas K2 p.o k) ∨ (n ≠ 0 ∧ ∀ q ∈ K2, q.1 = p.o → q.2.2 ≠ [])) := by
      have hd := h1.below (Below.refl w1.heap.size w1).drew
      cases hl : M.look s.K p.o with
      | none =>
        refine ⟨none, s.K, w1.drew, 0, fun ty => drop_im _ _ ty, hd, tch_of (Below.refl _ _) _, fun W e => ?_, fun W e => ?_, fun ty W _ => len_im0 ty W, fun o k => ⟨fun q => ⟨q, fun e => khas_no hk hl k (e.1 ▸ q)⟩, fun q => q.1⟩, fun q hq _ => hfull q hq, fun j hj => List.mem_cons_of_mem _ (List.mem_cons_of_mem _ (List.mem_cons_of_mem _ hj)), .inl ⟨rfl, fun k => khas_no hk hl k⟩⟩
        · rw [e]; have := hd.lookK p.o hp.o; rw [hl] at this; exact this
        · rw [e]; have := (hd.below (Below.refl _ _).drew).lookK p.o hp.o; rw [hl] at this; exact this
      | some q =>
        obtain ⟨ib, l⟩ := q
        have hq := M.look_mem hl
        obtain ⟨ob, ed, hm3⟩ := M.run_del (ty := 0) txKey Tryd.underlying97 (hd.kr _ hq) p.k hp.k
        have edt : ∀ ty, (Builtin.delete_ #[97, 9] ty #[.map (some ib), .string p.k]).run Tryd.prog w1.drew = .ok (.tuple #[]) (M.setM w1.drew ib ob) := fun ty => ed
        obtain ⟨l', el, hl'⟩ := del_S l p.k (hd.nodup hq)
        rw [el] at hm3
        have h2 : RgM (M.setM w1.drew ib ob) base { s with K := M.put s.K p.o (ib, l') } := hd.setRow hq (fun j hj => M.setM_other ob hj) hm3
        have hin : (p.o, (ib, l')) ∈ M.put s.K p.o (ib, l') := put_inG _ _ hk
        refine ⟨some ib, M.put s.K p.o (ib, l'), M.setM w1.drew ib ob, l'.length, edt, h2, (setM_tch _ _ _).mono (fun j _ e => by rw [e]; exact Rs.row_bl hq), fun W e => ?_, fun W e => ?_, fun ty W e => ?_, fun o k => ?_, fun q' hq' hne => ?_, fun j hj => ?_, ?_⟩
        · rw [e]; have := hd.lookK p.o hp.o; rw [hl] at this; exact this
        · rw [e]; have := (h2.below (Below.refl _ _).drew).lookK p.o hp.o; rw [M.look_of_mem (M.put_keys _ _ _ hk) hin] at this; exact this
        · rw [e]
          have hm4 : M.MapAt (M.setM w1.drew ib ob).drew ib tx txOk (entS l') := hm3
          have := M.run_mlen (ty := ty) Tryd.underlying97 hm4
          rw [entS_len] at this
          exact this
        · rw [khas_put hk]
          constructor
          · rintro (⟨rfl, hk'⟩ | ⟨hne, hk'⟩)
            · obtain ⟨q1, q2⟩ := (hl' k).1 hk'
              exact ⟨(khas_of hk hq k).2 q1, fun e => q2 e.2⟩
            · exact ⟨hk', fun e => hne e.1⟩
          · rintro ⟨hk', hn⟩
            by_cases e : o = p.o
            · subst e
              exact .inl ⟨rfl, (hl' k).2 ⟨(khas_of hk hq k).1 hk', fun e2 => hn ⟨rfl, e2⟩⟩⟩
            · exact .inr ⟨e, hk'⟩
        · rcases put_memG hk hq' with rfl | ⟨hq', _⟩
          · exact absurd rfl hne
          · exact hfull q' hq'
        · obtain ⟨q', hq', rfl⟩ := List.mem_map.1 hj
          rcases put_memG hk hq' with rfl | ⟨hq', _⟩
          · exact Rs.row_bl (r := (p.o, (ib, l))) hq
          · exact Rs.row_bl hq'
        · by_cases e0 : l' = []
          · subst e0
            refine .inl ⟨rfl, fun k hk' => ?_⟩
            have := (khas_of (M.put_keys _ _ _ hk) hin k).1 hk'
            cases this
          · refine .inr ⟨fun e => e0 (List.eq_nil_of_length_eq_zero e), fun q' hq' e => ?_⟩
            rcases put_memG hk hq' with rfl | ⟨_, hne⟩
            · exact e0
            · exact absurd e hne
    have rsd : RS s.r s.bp s.bk w.heap.size p w1.drew := rs1.drew
    have lw : w.heap.size < w1.drew.heap.size := by show w.heap.size < w1.heap.size; omega
    have rs2 : RS s.r s.bp s.bk w.heap.size p w2 := ⟨h2.c0, h2.c1, rangeAt_keep rsd.pl (t2.block _ lw (fun hm => by have := h.lt _ hm; omega))⟩
    have rs2d := rs2.drew
    have hk2 : (K2.map (·.1)).Nodup := h2.keys
    have HED := hidMk ED
    have HL1 := hidMk lk1
    have HL2 := hidMk lk2
    have HN2 := hidMk ln2
    have t02 : Tch (fun j => j ∈ s.bl) w w2 := (T1.out.trans' (tch_of (Below.refl w1.heap.size w1).drew (fun _ => False)) (fun j _ q => q.elim)).trans' t2 (fun j _ q => q)
    have lo : ∀ o k, (KHas K2 o k ↔ KLess s.K p o k) := fun o k => by
      rw [kh2]
      unfold KLess
      constructor
      · exact fun q => ⟨q.1, fun e => q.2 e.2⟩
      · exact fun q => ⟨q.1, fun e => q.2 ⟨hz, e⟩⟩
    rcases emp with ⟨hn, hno⟩ | ⟨hn, hne⟩
    · -- none is left: the object goes
      have hdd := h2.below (Below.refl w2.heap.size w2).drew.drew
      obtain ⟨ob, ed, hm4⟩ := M.run_del (ty := 0) idKey Tryd.underlying82 hdd.kl p.o hp.o
      have edt : ∀ ty, (Builtin.delete_ #[82, 38] ty #[.map (some s.bk), p.o.v]).run Tryd.prog w2.drew.drew = .ok (.tuple #[]) (M.setM w2.drew.drew s.bk ob) := fun ty => ed
      have h5 : RgM (M.setM w2.drew.drew s.bk ob) base { s with K := M.del K2 p.o } := hdd.delRow (fun j hj => M.setM_other ob hj) hm4
      have NX : Hid (KNxt w base s (KLess s.K p) (M.setM w2.drew.drew s.bk ob)) := by
        refine ⟨⟨M.del K2 p.o, h5, fun _ q hq => ?_, fun o k => ?_, fun j hj => ?_⟩, ?_⟩
        · obtain ⟨hq, hne⟩ := (del_memG hk2).1 hq
          exact fu2 q hq hne
        · rw [khas_del hk2, ← lo]
          constructor
          · exact fun q => q.2
          · exact fun q => ⟨fun e => hno k (e ▸ q), q⟩
        · obtain ⟨q, hq, rfl⟩ := List.mem_map.1 hj
          exact .inl (bl2 _ (List.mem_map.2 ⟨q, ((del_memG hk2).1 hq).1, rfl⟩))
        · exact (t02.trans' (tch_of (Below.refl w2.heap.size w2).drew.drew (fun _ => False)) (fun j _ q => q.elim)).trans' (setM_tch _ _ _) (fun j _ e => by rw [e]; simp [Rs.bl])
      have E5 := hidMk edt
      have rs2dd := rs2d.drew
      obtain ⟨w5, hw5⟩ : ∃ w5, M.setM w2.drew.drew s.bk ob = w5 := ⟨_, rfl⟩
      rw [hw5] at E5 NX
      subst hn
      clear hw5 h5 hm4 ed edt hdd hno lo kh2 fu2 bl2 h2 t2 lk1 lk2 ln2 ED h h1 hk hr hk2 t02
      go_enter Tryd.func71, Tryd.ntmps71
      go_upto_region 1 with (first
        | (refine wpList_run rfl (exec_boxE (t := 52) (v := p.v) (u := .pointer (some ⟨w.heap.size, 0, none⟩)) (w2 := w1) rfl rfl EB.out) ?_)
        | fail)
      refine forg1 (pb := w.heap.size) (p := p) (r := false) _ w1 _ rfl rfl hp bx1 HR.out ?_
      intro a' w' hw' ha
      subst ha
      obtain rfl : w1 = w' := hw'.symm
      simp only [Act.put, List.setIfInBounds_toArray, List.set_cons_zero, List.set_cons_succ]
      go_upto_region 2 with fail
      refine forg2 (rb := s.r) (mb := s.bp) (kb := s.bk) (pb := w.heap.size) (p := p) (im := im) (w2 := w2) _ w1 _ rfl rfl rfl hp rsd HL1.out (HED.out _) ?_
      intro a' w' hw' ha
      subst ha
      obtain rfl : w2 = w' := hw'.symm
      simp only [Act.put, List.setIfInBounds_toArray, List.set_cons_zero, List.set_cons_succ]
      go_upto_region 3 with fail
      refine forg3 (rb := s.r) (mb := s.bp) (kb := s.bk) (pb := w.heap.size) (p := p) (im := im) (n := 0) (r := true) _ w2 _ rfl rfl rfl hp rs2d HL2.out (HN2.out _) rfl ?_
      intro a' w' hw' ha
      subst ha
      obtain rfl : w2.drew = w' := hw'.symm
      simp only [Act.put, List.setIfInBounds_toArray, List.set_cons_zero, List.set_cons_succ]
      go_upto_region 4 with fail
      refine forg4 (rb := s.r) (mb := s.bp) (kb := s.bk) (pb := w.heap.size) (p := p) (w2 := w5) _ w2.drew _ rfl rfl rfl hp rs2dd (E5.out _) ?_
      intro a' w' hw' ha
      subst ha
      obtain rfl : w5 = w' := hw'.symm
      simp only [Act.put, List.setIfInBounds_toArray, List.set_cons_zero, List.set_cons_succ]
      go_end0
      exact ⟨rfl, NX.out⟩
    · have NX : Hid (KNxt w base s (KLess s.K p) w2.drew) := by
        refine ⟨⟨K2, h2.below (Below.refl w2.heap.size w2).drew, fun _ q hq => ?_, lo, fun j hj => .inl (bl2 j hj)⟩, t02.trans' (tch_of (Below.refl w2.heap.size w2).drew (fun _ => False)) (fun j _ q => q.elim)⟩
        by_cases e : q.1 = p.o
        · exact hne q hq e
        · exact fu2 q hq e
      have hd0 : decide (n = 0) = false := by simp [hn]
      have HD0 := hidMk hd0
      clear lo kh2 fu2 bl2 h2 t2 lk1 lk2 ln2 ED h h1 hk hr hk2 t02 hne hn hd0
      go_enter Tryd.func71, Tryd.ntmps71
      go_upto_region 1 with (first
        | (refine wpList_run rfl (exec_boxE (t := 52) (v := p.v) (u := .pointer (some ⟨w.heap.size, 0, none⟩)) (w2 := w1) rfl rfl EB.out) ?_)
        | fail)
      refine forg1 (pb := w.heap.size) (p := p) (r := false) _ w1 _ rfl rfl hp bx1 HR.out ?_
      intro a' w' hw' ha
      subst ha
      obtain rfl : w1 = w' := hw'.symm
      simp only [Act.put, List.setIfInBounds_toArray, List.set_cons_zero, List.set_cons_succ]
      go_upto_region 2 with fail
      refine forg2 (rb := s.r) (mb := s.bp) (kb := s.bk) (pb := w.heap.size) (p := p) (im := im) (w2 := w2) _ w1 _ rfl rfl rfl hp rsd HL1.out (HED.out _) ?_
      intro a' w' hw' ha
      subst ha
      obtain rfl : w2 = w' := hw'.symm
      simp only [Act.put, List.setIfInBounds_toArray, List.set_cons_zero, List.set_cons_succ]
      go_upto_region 3 with fail
      refine forg3 (rb := s.r) (mb := s.bp) (kb := s.bk) (pb := w.heap.size) (p := p) (im := im) (n := n) (r := false) _ w2 _ rfl rfl rfl hp rs2d HL2.out (HN2.out _) HD0.out ?_
      intro a' w' hw' ha
      subst ha
      obtain rfl : w2.drew = w' := hw'.symm
      simp only [Act.put, List.setIfInBounds_toArray, List.set_cons_zero, List.set_cons_succ]
      go_wp2
      go_end0
      exact ⟨rfl, NX.out⟩
  · have hr : decide (p.a ≠ zId) = true := by simp [hz]
    have HR := hidMk hr
    have NX : Hid (KNxt w base s (KLess s.K p) w1) := ⟨⟨s.K, h1, fun hf => hf, fun o k => ⟨fun q => ⟨q, fun e => hz e.1⟩, fun q => q.1⟩, fun j hj => .inl (List.mem_cons_of_mem _ (List.mem_cons_of_mem _ (List.mem_cons_of_mem _ hj)))⟩, tch_of b1 _⟩
    clear h h1 hk hr hz
    go_enter Tryd.func71, Tryd.ntmps71
    go_upto_region 1 with (first
      | (refine wpList_run rfl (exec_boxE (t := 52) (v := p.v) (u := .pointer (some ⟨w.heap.size, 0, none⟩)) (w2 := w1) rfl rfl EB.out) ?_)
      | fail)
    refine forg1 (pb := w.heap.size) (p := p) (r := true) _ w1 _ rfl rfl hp bx1 HR.out ?_
    intro a' w' hw' ha
    subst ha
    obtain rfl : w1 = w' := hw'.symm
    simp only [Act.put, List.setIfInBounds_toArray, List.set_cons_zero, List.set_cons_succ]
    go_wp2
    try simp only [Exit.inBlock, Exit.then]
    refine bodyPost_ret (results_none rfl _ _ _) rfl ?_
    exact ⟨rfl, NX.out⟩
theorem pl_eq {p : PlK} {o : IdK} {k : ByteArray} : (⟨o, k, zId⟩ : PlK) = p ↔ (p.a = zId ∧ o = p.o ∧ k = p.k) := by
  obtain ⟨po, pk, pa⟩ := p
  simp only [PlK.mk.injEq]
  constructor
  · rintro ⟨rfl, rfl, rfl⟩; exact ⟨rfl, rfl, rfl⟩
  · rintro ⟨rfl, rfl, rfl⟩; exact ⟨rfl, rfl, rfl⟩
structure LNxt (w : World) (base : Nat) (s : Rs) (p : PlK) (v : Value) (L : List EnV) (s' : Rs) (w' : World) : Prop where
  mem : RgM w' base s'
  key : KeysOk s'.K s'.P
  r : s'.r = s.r
  bp : s'.bp = s.bp
  bk : s'.bk = s.bk
  la : s'.last = s.last
  li : ∀ q, liOf s'.P q = if q = p then L else liOf s.P q
  fr : ∀ q ∈ s'.P, q = (p, (v, L)) ∨ (q ∈ s.P ∧ q.1 ≠ p)
  bl : ∀ j ∈ s'.bl, j ∈ s.bl ∨ w.heap.size ≤ j
  tch : Tch (fun j => j ∈ s.bl) w w'
theorem lay_any {w : World} {base : Nat} {s : Rs} (h : RgM w base s) (hko : KeysOk s.K s.P) (hb : base ≤ w.heap.size) {p : PlK} (hp : p.ok) {v : Value} {L : List EnV} (hv : RN.Lo w base v L) (ok : ∀ x ∈ L, x.ok) (hap : ∀ q ∈ s.P, q.1 ≠ p → q.2.1.ownBlock ≠ v.ownBlock) :
    Calls Tryd.prog 49 #[.pointer (some ⟨s.r, 0, none⟩), p.v, v] w fun e w' => e = .returned (.tuple #[]) ∧ ∃ s', LNxt w base s p v L s' w' := by
  have hpl := h.places
  have b1 : Below w.heap.size w (w.alloc (.cells p.c.toArray 52)) := (Below.refl _ _).alloc (Nat.le_refl _) _
  have bx1 : (w.alloc (.cells p.c.toArray 52)).rangeAt w.heap.size 0 p.c := range_box w p.c _
  have z1 : (w.alloc (.cells p.c.toArray 52)).heap.size = w.heap.size + 1 := by simp
  obtain ⟨w1, hw1⟩ : ∃ w1, w.alloc (.cells p.c.toArray 52) = w1 := ⟨_, rfl⟩
  have EB := hidMk (show (Instr.box 52 p.v).run Tryd.prog w = .ok (.pointer (some ⟨w.heap.size, 0, none⟩)) w1 by rw [run_box, ← hw1]; rfl)
  rw [hw1] at b1 bx1 z1
  clear hw1
  have h1 := h.below b1
  have rs1 : RS s.r s.bp s.bk w.heap.size p w1 := ⟨h1.c0, h1.c1, bx1⟩
  have hd := h1.below (Below.refl w1.heap.size w1).drew
  have rsd := rs1.drew
  have lbp : s.bp < w.heap.size := h.lt s.bp (by simp [Rs.bl])
  have lr : s.r < w.heap.size := h.lt s.r (by simp [Rs.bl])
  have T1 : Tch (fun j => j ∈ s.bl) w w1.drew := tch_of (b1.drew) _
  obtain ⟨a, c, ev, hat, hc, hcm, _⟩ := hv.open RN_is ok
  by_cases hL : L = []
  · subst hL
    obtain ⟨ob, ed, hm⟩ := M.run_del (ty := 0) plKey Tryd.underlying81 hd.pl p hp
    have edt : ∀ ty, (Builtin.delete_ #[81, 52] ty #[.map (some s.bp), p.v]).run Tryd.prog w1.drew = .ok (.tuple #[]) (M.setM w1.drew s.bp ob) := fun ty => ed
    have h2 : RgM (M.setM w1.drew s.bp ob) base { s with P := M.del s.P p } := hd.delP (fun j hj => M.setM_other ob hj) hm
    have t2 : Tch (fun j => j ∈ s.bl) w (M.setM w1.drew s.bp ob) := T1.trans' (setM_tch _ _ _) (fun j _ e => by rw [e]; simp [Rs.bl])
    have z2 : (M.setM w1.drew s.bp ob).heap.size = w1.heap.size := M.setM_size _ _ _
    have rs2 : RS s.r s.bp s.bk w.heap.size p (M.setM w1.drew s.bp ob) := ⟨h2.c0, h2.c1, rangeAt_keep rsd.pl (M.setM_other ob (by omega))⟩
    obtain ⟨w2, hw2⟩ : ∃ w2, M.setM w1.drew s.bp ob = w2 := ⟨_, rfl⟩
    rw [hw2] at edt h2 t2 z2 rs2
    have CF := hidMk (forget_any (w := w2) (base := base) (s := { s with P := M.del s.P p }) h2 (by omega) hko.full hp)
    have NX : Hid (∀ w', KNxt w2 base { s with P := M.del s.P p } (KLess s.K p) w' → ∃ s', LNxt w base s p v [] s' w') := by
      rintro w' ⟨⟨K', m', f', k', b'⟩, t'⟩
      refine ⟨{ s with P := M.del s.P p, K := K' }, m', ⟨f' hko.full, fun o k => ?_⟩, rfl, rfl, rfl, rfl, fun q => ?_, fun q hq => ?_, fun j hj => ?_, t2.trans' t' (fun j _ q => q)⟩
      · show KHas K' o k ↔ (M.look (M.del s.P p) ⟨o, k, zId⟩).isSome = true
        rw [k', M.del_look _ _ hpl]
        unfold KLess
        rw [hko.mem, ← pl_eq (p := p)]
        by_cases e : (⟨o, k, zId⟩ : PlK) = p
        · simp [e]
        · simp [e]
      · show liOf (M.del s.P p) q = _
        unfold liOf
        rw [M.del_look _ _ hpl]
        by_cases e : q = p
        · simp [e]
        · simp [e]
      · exact .inr ((del_memG hpl).1 hq)
      · rcases List.mem_cons.1 hj with rfl | hj
        · exact .inl (by simp [Rs.bl])
        rcases List.mem_cons.1 hj with rfl | hj
        · exact .inl (by simp [Rs.bl])
        rcases List.mem_cons.1 hj with rfl | hj
        · exact .inl (by simp [Rs.bl])
        · rcases b' j hj with q | q
          · exact .inl q
          · exact .inr (by omega)
    have ED := hidMk edt
    have ev2 : v = .slice a 0 c := ev
    have EV := hidMk ev2
    clear edt ed hm h2 t2 hd h h1 hko hap hv ok hat hc hcm ev ev2 T1 hpl hw2
    rw [EV.out]
    go_enter Tryd.func49, Tryd.ntmps49
    go_upto_region 2 with (first
      | (refine wpList_run rfl (exec_boxE (t := 52) (v := p.v) (u := .pointer (some ⟨w.heap.size, 0, none⟩)) (w2 := w1) rfl rfl EB.out) ?_)
      | fail)
    refine lay2 (rb := s.r) (mb := s.bp) (kb := s.bk) (pb := w.heap.size) (p := p) (w2 := w2) _ w1 _ rfl rfl rfl hp rsd (ED.out _) ?_
    intro a' w' hw' ha
    subst ha
    obtain rfl : w2 = w' := hw'.symm
    simp only [Act.put, List.setIfInBounds_toArray, List.set_cons_zero, List.set_cons_succ]
    go_upto_region 3 with fail
    refine lay3 (rb := s.r) (mb := s.bp) (kb := s.bk) (pb := w.heap.size) (p := p) (fun w' => KNxt w2 base { s with P := M.del s.P p } (KLess s.K p) w') _ w2 _ rfl rfl rfl hp rs2 CF.out ?_
    intro a' w' hw' ha
    subst ha
    simp only [Act.put, List.setIfInBounds_toArray, List.set_cons_zero, List.set_cons_succ]
    have FN := hidMk (NX.out w' hw')
    clear NX CF hw'
    go_wp2
    refine bodyPost_ret (results_none rfl _ _ _) rfl ?_
    rw [← EV.out]
    exact ⟨rfl, FN.out⟩
  · obtain ⟨ob, eu, hm⟩ := M.run_put plKey Tryd.underlying81 hd.pl p hp v
    have hv2 : RN.Lo (M.setM w1.drew s.bp ob) base v L := (hv.below b1.drew).keep (fun k hk => M.setM_other ob (fun e => by
      obtain ⟨_, cc, hcc⟩ := hv.cells hk
      obtain ⟨⟨es, cl, q1, _⟩, _⟩ := h.pl
      rw [e] at hcc
      rw [hcc] at q1
      cases q1))
    have h2 : RgM (M.setM w1.drew s.bp ob) base { s with P := M.put s.P p (v, L) } := hd.setP (fun j hj => M.setM_other ob hj) hm hv2 hL ok hap
    have t2 : Tch (fun j => j ∈ s.bl) w (M.setM w1.drew s.bp ob) := T1.trans' (setM_tch _ _ _) (fun j _ e => by rw [e]; simp [Rs.bl])
    have z2 : (M.setM w1.drew s.bp ob).heap.size = w1.heap.size := M.setM_size _ _ _
    have rs2 : RS s.r s.bp s.bk w.heap.size p (M.setM w1.drew s.bp ob) := ⟨h2.c0, h2.c1, rangeAt_keep rsd.pl (M.setM_other ob (by omega))⟩
    obtain ⟨w2, hw2⟩ : ∃ w2, M.setM w1.drew s.bp ob = w2 := ⟨_, rfl⟩
    rw [hw2] at eu h2 t2 z2 rs2
    have CF := hidMk (note_any (w := w2) (base := base) (s := { s with P := M.put s.P p (v, L) }) h2 (by omega) hp)
    have NX : Hid (∀ w', KNxt w2 base { s with P := M.put s.P p (v, L) } (KMore s.K p) w' → ∃ s', LNxt w base s p v L s' w') := by
      rintro w' ⟨⟨K', m', f', k', b'⟩, t'⟩
      refine ⟨{ s with P := M.put s.P p (v, L), K := K' }, m', ⟨f' hko.full, fun o k => ?_⟩, rfl, rfl, rfl, rfl, fun q => ?_, fun q hq => ?_, fun j hj => ?_, t2.trans' t' (fun j _ q => q)⟩
      · show KHas K' o k ↔ (M.look (M.put s.P p (v, L)) ⟨o, k, zId⟩).isSome = true
        rw [k', M.put_look _ _ _ hpl]
        unfold KMore
        rw [hko.mem, ← pl_eq (p := p)]
        by_cases e : (⟨o, k, zId⟩ : PlK) = p
        · simp [e]
        · simp [e]
      · show liOf (M.put s.P p (v, L)) q = _
        unfold liOf
        rw [M.put_look _ _ _ hpl]
        by_cases e : q = p
        · simp [e]
        · simp [e]
      · exact put_memG hpl hq
      · rcases List.mem_cons.1 hj with rfl | hj
        · exact .inl (by simp [Rs.bl])
        rcases List.mem_cons.1 hj with rfl | hj
        · exact .inl (by simp [Rs.bl])
        rcases List.mem_cons.1 hj with rfl | hj
        · exact .inl (by simp [Rs.bl])
        · rcases b' j hj with q | q
          · exact .inl q
          · exact .inr (by omega)
    have EU := hidMk eu
    obtain ⟨n, hn⟩ : ∃ n, L.length = n := ⟨_, rfl⟩
    have hn0 : ((n : Int) == 0) = false := by
      have : n ≠ 0 := fun e => hL (List.eq_nil_of_length_eq_zero (by omega))
      simp; omega
    rw [hn] at ev
    have EV := hidMk ev
    clear eu hm h2 t2 hd h h1 hko hap hv hv2 ok hat hc hcm ev T1 hpl hw2 hn hL
    rw [EV.out]
    rw [EV.out] at EU
    go_enter Tryd.func49, Tryd.ntmps49
    go_upto_region 4 with (first
      | (refine wpList_run rfl (exec_boxE (t := 52) (v := p.v) (u := .pointer (some ⟨w.heap.size, 0, none⟩)) (w2 := w1) rfl rfl EB.out) ?_)
      | fail)
    refine lay4 (rb := s.r) (mb := s.bp) (kb := s.bk) (pb := w.heap.size) (p := p) (w2 := w2) _ w1 _ rfl rfl rfl rfl hp rsd EU.out ?_
    intro a' w' hw' ha
    subst ha
    obtain rfl : w2 = w' := hw'.symm
    simp only [Act.put, List.setIfInBounds_toArray, List.set_cons_zero, List.set_cons_succ]
    go_upto_region 5 with fail
    refine lay5 (rb := s.r) (mb := s.bp) (kb := s.bk) (pb := w.heap.size) (p := p) (fun w' => KNxt w2 base { s with P := M.put s.P p (v, L) } (KMore s.K p) w') _ w2 _ rfl rfl rfl hp rs2 CF.out ?_
    intro a' w' hw' ha
    subst ha
    simp only [Act.put, List.setIfInBounds_toArray, List.set_cons_zero, List.set_cons_succ]
    have FN := hidMk (NX.out w' hw')
    clear NX CF hw'
    go_end0
    rw [← EV.out]
    exact ⟨rfl, FN.out⟩
end Go.Proofs.YtldlljobofnmmaaDoor
