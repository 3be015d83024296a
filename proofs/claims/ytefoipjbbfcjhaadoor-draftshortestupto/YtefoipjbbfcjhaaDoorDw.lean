import Derived.Test.YtefoipjbbfcjhaaDoorDu
namespace Go.Proofs.YtefoipjbbfcjhaaDoor
open Go.RowKit
set_option linter.unusedVariables false
set_option linter.unusedSimpArgs false

theorem build_pat4 (a c : Nat) (s : ByteArray) (w : World) : (Instr.build 34 #[(0, .int .u8 4), (3, .int .i64 (a : Int)), (4, .int .i64 (c : Int)), (5, .string s)]).run Tryd.prog w = .ok (.agg (patC a c s)) w := by unfold patC; go_simp
theorem sub_int (a b c : Nat) (w : World) (h : (a : Int) - (b : Int) = (c : Int)) (hc : c ≤ 1048576) : (binOp .sub 3 (.int .i64 (a : Int)) (.int .i64 (b : Int))).run Tryd.prog w = .ok (.int .i64 (c : Int)) w := by
  have e : IntKind.i64.wrap (c : Int) = (c : Int) := by
    first | (simp [IntKind.wrap, IntKind.bits, IntKind.signed]; done) | (simp [IntKind.wrap, IntKind.bits, IntKind.signed]; omega) | (simp [IntKind.wrap, IntKind.bits, IntKind.signed]; split <;> omega)
  go_simp
theorem one_pat (a c : Nat) (s : ByteArray) : ∀ u ∈ (Value.agg (patC a c s)).cells.toList, u.oneCell' = true := by simp [Value.cells, Value.oneCell', patC]
set_option maxRecDepth 100000 in
set_option maxHeartbeats 40000000 in
theorem between_any (la : Nat) (B : List Nat) (aA aB : Option Addr) (cA cB : Nat) (kv : Value) (K : List (Nat × Nat × Nat)) (w : World) (base : Nat) (hK : w.ownsRow base 57 3 kv K.length (kV K)) (hbase : base ≤ w.heap.size)
    (hB : ∀ wx, Below base w wx → Rd wx aB (rV B)) (hc : B.length ≤ cB) (h0 : aB = none → cB = 0) (hasc : Asc la B.length (K ++ [(la, B.length, 0)]) 0 0) (hla : la ≤ 1048576) (hlb : B.length ≤ 1048576) (hKl : K.length ≤ 1048576) :
    Calls Tryd.prog 13 #[.slice aA la cA, .slice aB B.length cB, kv] w fun e w' => ∃ v, e = .returned v ∧ w'.ownsRow base 34 7 v (betw B (K ++ [(la, B.length, 0)]) 0 0).length (pV (betw B (K ++ [(la, B.length, 0)]) 0 0)) ∧ Below base w w' := by
  have HK := Hid.mk' hK
  have hd1 : Hid (K.length + 1 ≤ maxLen) := by show _ ≤ _; unfold maxLen; omega
  have hd2 : Hid ((K.length + 1) * 24 ≤ 140737488355328) := by show _ ≤ _; omega
  have HCV : Hid (∀ wx j k, Below base w wx → j ≤ k → k ≤ B.length → (Instr.sliceAt 37 (.slice aB B.length cB) (some (.int .i64 (j : Int))) (some (.int .i64 (k : Int))) none).run Tryd.prog wx = .ok (cvOf aB cB j k) wx ∧ (convert 37 9 (cvOf aB cB j k)).run Tryd.prog wx = .ok (.string (txt (part B j k))) wx) := fun wx j k hb hjk hk => conv_part B aB cB j k wx (hB wx hb) hjk hk hc h0
  have HAS := Hid.mk' hasc
  obtain ⟨S, hS⟩ : ∃ x, K ++ [(la, B.length, 0)] = x := ⟨_, rfl⟩
  have hSl : S.length = K.length + 1 := by rw [← hS]; simp
  rw [hS] at HAS ⊢
  obtain ⟨ANS, hANS⟩ : ∃ x, betw B S 0 0 = x := ⟨_, rfl⟩
  have HAN : Hid (ANS = [] ++ betw B (S.drop 0) 0 0) := by show _ = _; rw [← hANS]; simp
  rw [hANS]
  have HSV : Hid (kV K ++ [.int .i64 (la : Int), .int .i64 (B.length : Int), .int .i64 0] = kV S) := by show _ = _; rw [← hS, kV_app]; simp [kV]
  have hbs := Hid.mk' hbase
  have HBL := Hid.mk' (Below.refl base w)
  clear hK hB hc h0 hasc hS hANS
  generalize hkl : K.length = n at *
  generalize hlbb : B.length = lb at *
  have HSL := Hid.mk' hSl
  clear hSl hkl hlbb
  go_enter Tryd.func13, Tryd.ntmps13
  go_wp2_with (first
    | (with_reducible refine at_bs ?_; refine wpList_push ei39 (.tmp 17) (.tmp 12) 18 rfl rfl rfl rfl rfl rfl (.agg #[.int .i64 (la : Int), .int .i64 (lb : Int), .int .i64 0]) rfl rfl base _ n (kV K) HK.out rfl rfl (one_i3 _ _ _) hd1.out hd2.out hbs.out ?_)
    | fail)
  intro v3 w3 own3 gr3 _
  rw [HSV.out] at own3
  have HB3 := Hid.mk' (HBL.out.grown gr3 hbs.out (fun k hk => (World.ownsRow.lt HK.out k hk).1))
  obtain ⟨g, cap, cur, rfl, hbg, hg, hcell⟩ : ∃ g cap cur, v3 = .slice (some ⟨g, 0, none⟩) (n + 1) cap ∧ base ≤ g ∧ w3.heap[g]? = some (.cells cur 57 (0, 0)) ∧ ∀ x u, (kV S)[x]? = some u → w3.cell? ⟨g, x, none⟩ = some u := by
    rcases own3.2 with ⟨_, h⟩ | ⟨g, cap, cur, e, h1, h2, _⟩
    · omega
    · refine ⟨g, cap, cur, e, h1, h2, fun x u hu => ?_⟩
      subst e
      have := World.ownsRow.cells own3 (g := g) rfl x u hu
      rwa [Addr.add_mid, Nat.zero_add] at this
  have HC := Hid.mk' hcell
  have HG := Hid.mk' (Array.getElem?_eq_some_iff.1 hg).1
  clear own3 gr3 hcell hg HK hd1 hd2 HSV HBL hbs
  go_wp2
  have N0 : Hid (w3.ownsRow w3.heap.size 34 7 (.slice none 0 0) ([] : List Pat).length (pV [])) := World.ownsRow_nil _ _ _ _
  go_loopw [7, 8, 9, 21] (fun l x y z wr => ∃ (t i j : Nat) (D : List Pat), t ≤ n + 1 ∧ D.length ≤ t ∧ x = .int .i64 (i : Int) ∧ y = .int .i64 (j : Int) ∧ z = .int .i64 (t : Int) ∧ i ≤ la ∧ j ≤ lb ∧ Hid (wr.ownsRow w3.heap.size 34 7 l D.length (pV D)) ∧ Hid (Below w3.heap.size w3 wr) ∧ Hid (ANS = D ++ betw B (S.drop t) i j) ∧ Hid (Asc la lb (S.drop t) i j)) (fun _ _ _ z _ => n + 1 - (intOf z).toNat)
  case atStart => exact ⟨0, 0, 0, [], by omega, by simp, rfl, rfl, rfl, by omega, by omega, N0, Below.refl _ _, HAN, HAS⟩
  case round =>
    obtain ⟨t, i, j, D, ht, hDt, rfl, rfl, rfl, hi, hj, HO, HW, HA, HS⟩ := hrel
    clear N0 HAN HAS
    by_cases htn : t < n + 1
    · have htn' : (t : Int) < ((n + 1 : Nat) : Int) := by omega
      have htS : t < S.length := by rw [HSL.out]; exact htn
      obtain ⟨k0, k1, k2⟩ := kV_at htS
      have HA2 := HA.out
      have HS2 := HS.out
      rw [List.drop_eq_getElem_cons htS] at HA2 HS2
      generalize S[t] = st at *
      obtain ⟨si, sj, sn⟩ := st
      dsimp only at k0 k1 k2
      obtain ⟨p1, p2, p3, p4, p5⟩ := HS2
      dsimp only at p1 p2 p3 p4 p5
      have c0 : wr.cell? ⟨g, t * 3, none⟩ = some (.int .i64 (si : Int)) := (HW.out.cell (p := ⟨g, t * 3, none⟩) HG.out).trans (HC.out _ _ k0)
      have c1 : wr.cell? ⟨g, t * 3 + 1, none⟩ = some (.int .i64 (sj : Int)) := (HW.out.cell (p := ⟨g, t * 3 + 1, none⟩) HG.out).trans (HC.out _ _ k1)
      have c2 : wr.cell? ⟨g, t * 3 + 2, none⟩ = some (.int .i64 (sn : Int)) := (HW.out.cell (p := ⟨g, t * 3 + 2, none⟩) HG.out).trans (HC.out _ _ k2)
      have HP5 := Hid.mk' p5
      have HA3 := Hid.mk' HA2
      clear k0 k1 k2 HA HS HA2 p5 htS
      obtain ⟨W1, hW1⟩ : ∃ W, W = wr.alloc (.cells #[.int .i64 (si : Int), .int .i64 (sj : Int), .int .i64 (sn : Int)] 57) := ⟨_, rfl⟩
      have bW1 : Below wr.heap.size wr W1 := by rw [hW1]; exact (Below.refl _ _).alloc (Nat.le_refl _) _
      have HB1 := Hid.mk' (HW.out.trans (bW1.mono HW.out.size))
      have HO1 := Hid.mk' (own_below HO.out bW1)
      have gq : W1.heap[wr.heap.size]? = some (.cells #[.int .i64 (si : Int), .int .i64 (sj : Int), .int .i64 (sn : Int)] 57 (0, 0)) := by rw [hW1]; exact heap_alloc_new wr _
      have d0 : W1.cell? ⟨wr.heap.size, 0, none⟩ = some (.int .i64 (si : Int)) := (cell_of_row _ _ 0 _ _ _ gq).trans rfl
      have d1 : W1.cell? ⟨wr.heap.size, 1, none⟩ = some (.int .i64 (sj : Int)) := (cell_of_row _ _ 1 _ _ _ gq).trans rfl
      have d2 : W1.cell? ⟨wr.heap.size, 2, none⟩ = some (.int .i64 (sn : Int)) := (cell_of_row _ _ 2 _ _ _ gq).trans rfl
      have HD := Hid.mk' (⟨d0, d1, d2⟩ : _ ∧ _ ∧ _)
      have HWW := Hid.mk' hW1
      clear gq bW1 hW1 d0 d1 d2
      by_cases hij : i < si ∨ j < sj
      · have HA4 : Hid (ANS = (D ++ [⟨j, si - i, txt (part B j sj)⟩]) ++ betw B (S.drop (t + 1)) (si + sn) (sj + sn)) := by
          show _ = _
          rw [HA3.out]
          show D ++ (pend B i j si sj ++ _) = _
          unfold pend
          rw [if_pos hij]
          simp
        obtain ⟨ci, hci⟩ : ∃ x, si - i = x := ⟨_, rfl⟩
        have eci : (si : Int) - (i : Int) = (ci : Int) := by omega
        rw [hci] at HA4
        obtain ⟨ts, hts⟩ : ∃ x, txt (part B j sj) = x := ⟨_, rfl⟩
        rw [hts] at HA4
        obtain ⟨hbs, v', w', hap, own', gr, _⟩ := run_push ei23 23 W1.drew (.agg (patC j ci ts)) rfl w3.heap.size _ D.length (pV D) HO1.out (one_pat j ci ts) (by unfold maxLen; omega) (by omega) HB1.out.size
        obtain ⟨W2, hW2⟩ : ∃ W, W = W1.drew.alloc (.cells (Value.agg (patC j ci ts)).cells 34) := ⟨_, rfl⟩
        rw [← hW2] at hbs hap gr
        have bW2 : Below W1.heap.size W1 W2 := by rw [hW2]; exact (Below.refl _ W1).drew.alloc (Nat.le_refl _) _
        have lq : wr.heap.size < W1.heap.size := World.block_lt_of_cell? _ _ HD.out.1
        have hvq : ∀ k, (Value.ownBlock _) = some k → k < wr.heap.size := fun k hk => (World.ownsRow.lt HO.out k hk).2
        have e2 : W2.heap[wr.heap.size]? = W1.heap[wr.heap.size]? := bW2.block _ lq
        have e3 : w'.heap[wr.heap.size]? = W1.heap[wr.heap.size]? := (gr.block _ (Nat.lt_of_lt_of_le lq bW2.size) (fun e => by have := hvq _ e.symm; omega)).trans e2
        have Bw1 : Below base w W1 := HB3.out.trans (HB1.out.mono (Nat.le_trans hbase HB3.out.size))
        have B2 : Below w3.heap.size w3 w' := (HB1.out.trans (bW2.mono HB1.out.size)).grown gr (Nat.le_trans HB1.out.size bW2.size) (fun k hk => (World.ownsRow.lt HO1.out k hk).1)
        have B3 : Below base w w' := HB3.out.trans (B2.mono (Nat.le_trans hbase HB3.out.size))
        have B4 : Below base w W2 := Bw1.trans (bW2.mono (Nat.le_trans (Nat.le_trans hbase HB3.out.size) HB1.out.size))
        have HX : Hid (∀ wx : World, (wx.heap[wr.heap.size]? = W1.heap[wr.heap.size]? ∧ Below base w wx) → wx.cell? ⟨wr.heap.size, 0, none⟩ = some (.int .i64 (si : Int)) ∧ wx.cell? ⟨wr.heap.size, 1, none⟩ = some (.int .i64 (sj : Int)) ∧ wx.cell? ⟨wr.heap.size, 2, none⟩ = some (.int .i64 (sn : Int)) ∧
          (Instr.sliceAt 37 (.slice aB lb cB) (some (.int .i64 (j : Int))) (some (.int .i64 (sj : Int))) none).run Tryd.prog wx = .ok (cvOf aB cB j sj) wx ∧ (convert 37 9 (cvOf aB cB j sj)).run Tryd.prog wx = .ok (.string ts) wx) := fun wx hx =>
          ⟨(World.cell?_of_block (w := W1) (a := ⟨wr.heap.size, 0, none⟩) hx.1).trans HD.out.1, (World.cell?_of_block (w := W1) (a := ⟨wr.heap.size, 1, none⟩) hx.1).trans HD.out.2.1, (World.cell?_of_block (w := W1) (a := ⟨wr.heap.size, 2, none⟩) hx.1).trans HD.out.2.2, (HCV.out wx j sj hx.2 p2 (by omega)).1, by rw [← hts]; exact (HCV.out wx j sj hx.2 p2 (by omega)).2⟩
        have HO5 : Hid (w'.ownsRow w3.heap.size 34 7 v' (D ++ [(⟨j, ci, ts⟩ : Pat)]).length (pV (D ++ [(⟨j, ci, ts⟩ : Pat)]))) := by
          show World.ownsRow _ _ _ _ _ _ _
          rw [List.length_append, pV_app]
          have e : pV [⟨j, ci, ts⟩] = (Value.agg (patC j ci ts)).cells.toList := by simp [pV, Value.cells]
          rw [e]
          exact own'
        have hDl : Hid ((D ++ [(⟨j, ci, ts⟩ : Pat)]).length ≤ t + 1) := by show _ ≤ _; simp; omega
        have HBS := Hid.mk' hbs
        have HAP := Hid.mk' hap
        have E1 := Hid.mk' (⟨e2, B4⟩ : _ ∧ _)
        have E2 := Hid.mk' (⟨e3, B3⟩ : _ ∧ _)
        have E0 := Hid.mk' (⟨rfl, Bw1.drew⟩ : W1.drew.heap[wr.heap.size]? = W1.heap[wr.heap.size]? ∧ Below base w W1.drew)
        have HB2 := Hid.mk' B2
        obtain ⟨f0, f1, f2, _, _⟩ := HX.out w' E2.out
        have hH : (i < si) ∨ (¬ i < si ∧ j < sj) := by omega
        clear hbs hap own' gr e2 e3 B2 B3 B4 Bw1 bW2 hW2 hts HCV HD HA3 hij HB1 HO1 HO hci hvq lq
        rcases hH with r1 | ⟨r1, r2⟩
        · have r1' : (i : Int) < (si : Int) := by omega
          clear r1
          go_wp2
          rename_i K4 aK4
          rw [← HWW.out]
          refine betw7 wr.heap.size (.slice aB lb cB) _ (cvOf aB cB j sj) (.agg (patC j ci ts)) _ v' (i : Int) (j : Int) (si : Int) (sj : Int) (ci : Int) ts W2 w' (fun wx => wx.heap[wr.heap.size]? = W1.heap[wr.heap.size]? ∧ Below base w wx) _ W1 _ rfl rfl rfl rfl rfl rfl E0.out (fun wx hw => load_1 (HX.out wx hw).1) (fun wx => by simp [eqGuard]) (fun wx hw => sub_int si i ci wx eci (by omega)) (fun wx hw => load_1 (HX.out wx hw).2.1) (fun wx hw => (HX.out wx hw).2.2.2.1) (fun wx hw => (HX.out wx hw).2.2.2.2) (fun wx => build_pat4 j ci ts wx) HBS.out E1.out HAP.out E2.out ?_
          intro a' ha
          subst ha
          refine aK4 _ _ ?_
          clear aK4
          simp only [Act.put, List.setIfInBounds_toArray, List.set_cons_zero, List.set_cons_succ]
          go_wp2
          go_quiet (fail)
          go_wp2
          go_roundw
          case rel => exact ⟨t + 1, si + sn, sj + sn, D ++ [(⟨j, ci, ts⟩ : Pat)], by omega, hDl.out, by go_num, by go_num, by go_num, by omega, by omega, HO5, below_drewN HB2.out _, HA4, HP5⟩
          case measure => simp [intOf]; omega
        · have r1' : ¬ (i : Int) < (si : Int) := by omega
          have r2' : (j : Int) < (sj : Int) := by omega
          clear r1 r2
          go_wp2
          rename_i K4 aK4
          rw [← HWW.out]
          refine betw7 wr.heap.size (.slice aB lb cB) _ (cvOf aB cB j sj) (.agg (patC j ci ts)) _ v' (i : Int) (j : Int) (si : Int) (sj : Int) (ci : Int) ts W2 w' (fun wx => wx.heap[wr.heap.size]? = W1.heap[wr.heap.size]? ∧ Below base w wx) _ W1 _ rfl rfl rfl rfl rfl rfl E0.out (fun wx hw => load_1 (HX.out wx hw).1) (fun wx => by simp [eqGuard]) (fun wx hw => sub_int si i ci wx eci (by omega)) (fun wx hw => load_1 (HX.out wx hw).2.1) (fun wx hw => (HX.out wx hw).2.2.2.1) (fun wx hw => (HX.out wx hw).2.2.2.2) (fun wx => build_pat4 j ci ts wx) HBS.out E1.out HAP.out E2.out ?_
          intro a' ha
          subst ha
          refine aK4 _ _ ?_
          clear aK4
          simp only [Act.put, List.setIfInBounds_toArray, List.set_cons_zero, List.set_cons_succ]
          go_wp2
          go_quiet (fail)
          go_wp2
          go_roundw
          case rel => exact ⟨t + 1, si + sn, sj + sn, D ++ [(⟨j, ci, ts⟩ : Pat)], by omega, hDl.out, by go_num, by go_num, by go_num, by omega, by omega, HO5, below_drewN HB2.out _, HA4, HP5⟩
          case measure => simp [intOf]; omega
      · have r1 : ¬ (i : Int) < (si : Int) := by omega
        have r2 : ¬ (j : Int) < (sj : Int) := by omega
        have HA4 : Hid (ANS = D ++ betw B (S.drop (t + 1)) (si + sn) (sj + sn)) := by
          show _ = _
          rw [HA3.out]
          show D ++ (pend B i j si sj ++ _) = _
          unfold pend
          rw [if_neg hij]
          rfl
        clear HA3 hij
        go_wp2
        go_quiet (fail)
        go_wp2
        go_roundw
        case rel => exact ⟨t + 1, si + sn, sj + sn, D, by omega, by omega, by go_num, by go_num, by go_num, by omega, by omega, by rw [← HWW.out]; exact HO1.out, by rw [← HWW.out]; exact below_drewN HB1.out _, HA4, HP5⟩
        case measure => simp [intOf]; omega
    · have htn' : ¬ (t : Int) < ((n + 1 : Nat) : Int) := by omega
      have HE : Hid (ANS = D) := by
        show _ = _
        rw [HA.out, List.drop_eq_nil_of_le (by rw [HSL.out]; omega)]
        simp [betw]
      clear HA HS
      go_wp2
      go_ret
      exact ⟨_, rfl, by rw [HE.out]; exact own_base HO.out (Nat.le_trans hbase HB3.out.size), HB3.out.trans (HW.out.mono (Nat.le_trans hbase HB3.out.size))⟩
end Go.Proofs.YtefoipjbbfcjhaaDoor
