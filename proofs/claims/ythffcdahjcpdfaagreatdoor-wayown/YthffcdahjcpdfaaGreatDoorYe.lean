import Derived.Test.YthffcdahjcpdfaaGreatDoorYd
namespace Go.Proofs.YthffcdahjcpdfaaGreatDoor
open Go.RowKit
set_option linter.unusedVariables false
set_option linter.unusedSimpArgs false

theorem two_box (w : World) (c d : Array Value) (t : TypeId) : ((w.alloc (.cells c t)).alloc (.cells d t)).drew.heap[w.heap.size]? = some (.cells c t (0, 0)) ∧ ((w.alloc (.cells c t)).alloc (.cells d t)).drew.heap[w.heap.size + 1]? = some (.cells d t (0, 0)) ∧ Below w.heap.size w ((w.alloc (.cells c t)).alloc (.cells d t)).drew := by
  refine ⟨?_, ?_, (bel_box2 w c d t t).drew⟩
  · show ((w.alloc (.cells c t)).alloc (.cells d t)).heap[w.heap.size]? = _
    rw [Below.heap_alloc _ _ _ (by simp)]; exact heap_alloc_new _ _
  · show ((w.alloc (.cells c t)).alloc (.cells d t)).heap[w.heap.size + 1]? = _
    have := heap_alloc_new (w.alloc (.cells c t)) (.cells d t)
    simpa using this
theorem st_cells {w : World} {g : Nat} {k : Int} {s : ByteArray} {n : Int} {t : TypeId} (h : w.heap[g]? = some (.cells #[.int .u8 k, .string s, .int .i64 n] t (0, 0))) : w.cell? ⟨g, 0, none⟩ = some (.int .u8 k) ∧ w.cell? ⟨g, 1, none⟩ = some (.string s) ∧ w.cell? ⟨g, 2, none⟩ = some (.int .i64 n) :=
  ⟨(cell_of_row _ _ 0 _ _ _ h).trans rfl, (cell_of_row _ _ 1 _ _ _ h).trans rfl, (cell_of_row _ _ 2 _ _ _ h).trans rfl⟩
/-- How two unlike steps stand, as the document says it. -/
theorem cases6 (pk : Int) (ps : ByteArray) (pn pk2 : Int) (ps2 : ByteArray) (pn2 : Int) (X R : Int) (hR : R = or2 (cSt ⟨pk, ps, pn⟩ ⟨pk2, ps2, pn2⟩) X) (hne : cSt ⟨pk, ps, pn⟩ ⟨pk2, ps2, pn2⟩ ≠ 0) :
    (pk < pk2 ∧ R = -1) ∨ (¬ pk < pk2 ∧ ¬ pk = pk2 ∧ R = 1) ∨ (pk = pk2 ∧ Op.bytesLess ps.toList ps2.toList = true ∧ R = -1) ∨ (pk = pk2 ∧ Op.bytesLess ps.toList ps2.toList = false ∧ (ps.toList == ps2.toList) = false ∧ R = 1) ∨
      (pk = pk2 ∧ ps = ps2 ∧ pn < pn2 ∧ R = -1) ∨ (pk = pk2 ∧ ps = ps2 ∧ ¬ pn < pn2 ∧ R = 1) := by
  have hR2 : R = cSt ⟨pk, ps, pn⟩ ⟨pk2, ps2, pn2⟩ := by rw [hR]; unfold or2; rw [if_neg hne]
  have hC : cSt ⟨pk, ps, pn⟩ ⟨pk2, ps2, pn2⟩ = or3 (cI pk pk2) (cS ps ps2) (cI pn pn2) := rfl
  rw [hC] at hne hR2
  clear hR hC
  rcases Int.lt_trichotomy pk pk2 with h | h | h
  · have e : cI pk pk2 = -1 := by unfold cI; rw [if_pos h]
    rw [e] at hR2
    exact .inl ⟨h, hR2⟩
  · subst h
    have e : cI pk pk = 0 := cI_zero.2 rfl
    rw [e] at hR2 hne
    rcases cS_val ps ps2 with ⟨p, e1⟩ | ⟨p, e1⟩ | ⟨p, e1⟩
    · rw [e1] at hR2
      exact .inr (.inr (.inl ⟨rfl, p, hR2⟩))
    · have es : ps = ps2 := cS_zero.1 e1
      rw [e1] at hR2 hne
      rcases Int.lt_trichotomy pn pn2 with h | h | h
      · have e : cI pn pn2 = -1 := by unfold cI; rw [if_pos h]
        rw [e] at hR2
        exact .inr (.inr (.inr (.inr (.inl ⟨rfl, es, h, hR2⟩))))
      · exact absurd (by rw [cI_zero.2 h]; rfl) hne
      · have e : cI pn pn2 = 1 := by unfold cI; rw [if_neg (by omega), if_pos h]
        rw [e] at hR2
        exact .inr (.inr (.inr (.inr (.inr ⟨rfl, es, by omega, hR2⟩))))
    · rw [e1] at hR2
      refine .inr (.inr (.inr (.inl ⟨rfl, bl_asymm p, ?_, hR2⟩)))
      cases hq : (ps.toList == ps2.toList) with
      | false => rfl
      | true =>
        have : ps.toList = ps2.toList := by simpa using hq
        rw [this, bl_irrefl] at p
        cases p
  · have e : cI pk pk2 = 1 := by unfold cI; rw [if_neg (by omega), if_pos h]
    rw [e] at hR2
    exact .inr (.inl ⟨by omega, by omega, hR2⟩)
set_option maxRecDepth 100000 in
set_option maxHeartbeats 8000000 in
theorem rcompare_any (a b : Option Addr) (l m : List St) (c d : Nat) (w : World) (ha : Sts w a l) (hb : Sts w b m) (hl : l.length ≤ 140737488355328) (hm : m.length ≤ 140737488355328) :
    Calls Tryz.prog 47 #[.slice a l.length c, .slice b m.length d] w fun e w' => e = .returned (.int .i64 (cL l m)) ∧ Below w.heap.size w w' := by
  have HA := Hid.mk' (fun wx (h : Below w.heap.size w wx) => ha.below h)
  have HB := Hid.mk' (fun wx (h : Below w.heap.size w wx) => hb.below h)
  obtain ⟨n, hn⟩ : ∃ n, n = l.length := ⟨_, rfl⟩
  obtain ⟨q, hq⟩ : ∃ q, q = m.length := ⟨_, rfl⟩
  rw [← hn] at hl ⊢
  rw [← hq] at hm ⊢
  have HN := Hid.mk' hn
  have HQ := Hid.mk' hq
  obtain ⟨R, hR⟩ : ∃ R, R = cL l m := ⟨_, rfl⟩
  rw [← hR]
  have HR := Hid.mk' hR
  clear ha hb hn hq hR
  go_enter Tryz.func47, Tryz.ntmps47
  go_wp2
  go_loopw [5] (fun i wr => ∃ k : Nat, k ≤ n ∧ k ≤ q ∧ i = .int .i64 k ∧ Hid (Below w.heap.size w wr) ∧ Hid (l.take k = m.take k)) (fun i _ => n - (intOf i).toNat)
  case atStart => exact ⟨0, by omega, by omega, rfl, Below.refl _ _, by simp [Hid]⟩
  case round =>
    obtain ⟨k, hk, hkq, rfl, HW, HT⟩ := hrel
    have HC : Hid (R = cL (l.drop k) (m.drop k)) := HR.out.trans (cL_step k HT.out (by rw [← HN.out]; omega) (by rw [← HQ.out]; omega))
    by_cases hkn : k < n
    · have hkn' : (k : Int) < (n : Int) := by omega
      by_cases hkm : k < q
      · have hkm' : (k : Int) < (q : Int) := by omega
        obtain ⟨b1, o1, p, rfl, hp, c0, c1, c2⟩ := (HA.out wr HW.out).at (i := k) (by rw [← HN.out]; omega)
        obtain ⟨b2, o2, p2, rfl, hp2, d0, d1, d2⟩ := (HB.out wr HW.out).at (i := k) (by rw [← HQ.out]; omega)
        have HP := Hid.mk' hp
        have HP2 := Hid.mk' hp2
        have ix := fun wx => indexS b1 o1 n c k wx hkn
        have ix2 := fun wx => indexS b2 o2 q d k wx hkm
        clear hp hp2
        obtain ⟨pk, ps, pn⟩ := p
        obtain ⟨pk2, ps2, pn2⟩ := p2
        simp only [] at c0 c1 c2 d0 d1 d2
        have HC2 : Hid (R = or2 (cSt ⟨pk, ps, pn⟩ ⟨pk2, ps2, pn2⟩) (cL (l.drop (k + 1)) (m.drop (k + 1)))) := by show _ = _; rw [HC.out, drop_at HP.out, drop_at HP2.out]; rfl
        have HC3 : Hid (cSt ⟨pk, ps, pn⟩ ⟨pk2, ps2, pn2⟩ = 0 → l.take (k + 1) = m.take (k + 1)) := fun h => by
          have e := cSt_zero.1 h
          have h1 := HP.out
          rw [e] at h1
          exact take_at HT.out h1 HP2.out
        have HC6 := Hid.mk' (cases6 pk ps pn pk2 ps2 pn2 _ R HC2.out)
        have he : ∀ wx, (Op.equalIn 10000 54 (.agg #[.int .u8 pk, .string ps, .int .i64 pn]) (.agg #[.int .u8 pk2, .string ps2, .int .i64 pn2])).run Tryz.prog wx = .ok (decide (cSt ⟨pk, ps, pn⟩ ⟨pk2, ps2, pn2⟩ = 0)) wx := fun wx => eqSt ⟨pk, ps, pn⟩ ⟨pk2, ps2, pn2⟩ wx
        have HE := Hid.mk' he
        have hz := HW.out.size
        obtain ⟨A1, hA1⟩ : ∃ A, A = ((wr.alloc (.cells #[.int .u8 pk, .string ps, .int .i64 pn] 54)).alloc (.cells #[.int .u8 pk2, .string ps2, .int .i64 pn2] 54)).drew := ⟨_, rfl⟩
        obtain ⟨A2, hA2⟩ : ∃ A, A = ((wr.alloc (.cells #[.int .u8 pk2, .string ps2, .int .i64 pn2] 54)).alloc (.cells #[.int .u8 pk, .string ps, .int .i64 pn] 54)).drew := ⟨_, rfl⟩
        have Q1 := two_box wr #[.int .u8 pk, .string ps, .int .i64 pn] #[.int .u8 pk2, .string ps2, .int .i64 pn2] 54
        have Q2 := two_box wr #[.int .u8 pk2, .string ps2, .int .i64 pn2] #[.int .u8 pk, .string ps, .int .i64 pn] 54
        rw [← hA1] at Q1
        rw [← hA2] at Q2
        have X1 : Hid ((A1.cell? ⟨wr.heap.size, 0, none⟩ = some (.int .u8 pk) ∧ A1.cell? ⟨wr.heap.size, 1, none⟩ = some (.string ps) ∧ A1.cell? ⟨wr.heap.size, 2, none⟩ = some (.int .i64 pn)) ∧ (A1.cell? ⟨wr.heap.size + 1, 0, none⟩ = some (.int .u8 pk2) ∧ A1.cell? ⟨wr.heap.size + 1, 1, none⟩ = some (.string ps2) ∧ A1.cell? ⟨wr.heap.size + 1, 2, none⟩ = some (.int .i64 pn2)) ∧ Below w.heap.size w A1) := ⟨st_cells Q1.1, st_cells Q1.2.1, HW.out.trans (Q1.2.2.mono hz)⟩
        have X2 : Hid ((A2.cell? ⟨wr.heap.size + 1, 0, none⟩ = some (.int .u8 pk) ∧ A2.cell? ⟨wr.heap.size + 1, 1, none⟩ = some (.string ps) ∧ A2.cell? ⟨wr.heap.size + 1, 2, none⟩ = some (.int .i64 pn)) ∧ (A2.cell? ⟨wr.heap.size, 0, none⟩ = some (.int .u8 pk2) ∧ A2.cell? ⟨wr.heap.size, 1, none⟩ = some (.string ps2) ∧ A2.cell? ⟨wr.heap.size, 2, none⟩ = some (.int .i64 pn2)) ∧ Below w.heap.size w A2) := ⟨st_cells Q2.2.1, st_cells Q2.1, HW.out.trans (Q2.2.2.mono hz)⟩
        have HA1 := Hid.mk' hA1
        have HA2 := Hid.mk' hA2
        clear hA1 hA2 Q1 Q2 HC HP HP2 he
        generalize cSt ⟨pk, ps, pn⟩ ⟨pk2, ps2, pn2⟩ = C at *
        go_upto_region 4 with fail
        go_region_held3 (fun w' => w'.cell? ⟨b1, o1 + 3 * k, none⟩ = some (.int .u8 pk) ∧ w'.cell? ⟨b1, o1 + 3 * k + 1, none⟩ = some (.string ps) ∧ w'.cell? ⟨b1, o1 + 3 * k + 2, none⟩ = some (.int .i64 pn) ∧ w'.cell? ⟨b2, o2 + 3 * k, none⟩ = some (.int .u8 pk2) ∧ w'.cell? ⟨b2, o2 + 3 * k + 1, none⟩ = some (.string ps2) ∧ w'.cell? ⟨b2, o2 + 3 * k + 2, none⟩ = some (.int .i64 pn2)) (first | assumption | go_keep) (fail)
        all_goals clear c0 c1 c2 d0 d1 d2
        · rw [← HA1.out]
          obtain ⟨⟨x0, x1, x2⟩, ⟨y0, y1, y2⟩, bw⟩ := X1.out
          have BW := Hid.mk' bw
          clear X1 X2 HA1 HA2 bw
          by_cases hC : C = 0
          · have HT2 : Hid (l.take (k + 1) = m.take (k + 1)) := HC3.out hC
            have he := HE.out
            rw [decide_eq_true hC] at he
            clear hC HC6 HC3 HC2 HE
            go_wp2
            exact ⟨⟨k + 1, by omega, by omega, by go_num, BW, HT2⟩, by simp [intOf]; omega⟩
          · have he := HE.out
            rw [decide_eq_false hC] at he
            rcases HC6.out hC with ⟨h1, hr⟩ | ⟨h1, h2, hr⟩ | ⟨rfl, h2, hr⟩ | ⟨rfl, h2, h3, hr⟩ | ⟨rfl, rfl, h2, hr⟩ | ⟨rfl, rfl, h2, hr⟩
            all_goals (have HRR := Hid.mk' hr; clear hr hC HC6 HC3 HC2 HE)
            · go_wp2
              go_ret
              exact ⟨by rw [HRR.out]; rfl, BW.out⟩
            · go_wp2
              go_ret
              exact ⟨by rw [HRR.out]; rfl, BW.out⟩
            · go_wp2
              go_ret
              exact ⟨by rw [HRR.out]; rfl, BW.out⟩
            · go_wp2
              go_ret
              exact ⟨by rw [HRR.out]; rfl, BW.out⟩
            · have hi := bl_irrefl ps.toList
              go_wp2
              go_ret
              exact ⟨by rw [HRR.out]; rfl, BW.out⟩
            · have hi := bl_irrefl ps.toList
              go_wp2
              go_ret
              exact ⟨by rw [HRR.out]; rfl, BW.out⟩
        · rw [← HA2.out]
          obtain ⟨⟨x0, x1, x2⟩, ⟨y0, y1, y2⟩, bw⟩ := X2.out
          have BW := Hid.mk' bw
          clear X1 X2 HA1 HA2 bw
          by_cases hC : C = 0
          · have HT2 : Hid (l.take (k + 1) = m.take (k + 1)) := HC3.out hC
            have he := HE.out
            rw [decide_eq_true hC] at he
            clear hC HC6 HC3 HC2 HE
            go_wp2
            exact ⟨⟨k + 1, by omega, by omega, by go_num, BW, HT2⟩, by simp [intOf]; omega⟩
          · have he := HE.out
            rw [decide_eq_false hC] at he
            rcases HC6.out hC with ⟨h1, hr⟩ | ⟨h1, h2, hr⟩ | ⟨rfl, h2, hr⟩ | ⟨rfl, h2, h3, hr⟩ | ⟨rfl, rfl, h2, hr⟩ | ⟨rfl, rfl, h2, hr⟩
            all_goals (have HRR := Hid.mk' hr; clear hr hC HC6 HC3 HC2 HE)
            · go_wp2
              go_ret
              exact ⟨by rw [HRR.out]; rfl, BW.out⟩
            · go_wp2
              go_ret
              exact ⟨by rw [HRR.out]; rfl, BW.out⟩
            · go_wp2
              go_ret
              exact ⟨by rw [HRR.out]; rfl, BW.out⟩
            · go_wp2
              go_ret
              exact ⟨by rw [HRR.out]; rfl, BW.out⟩
            · have hi := bl_irrefl ps.toList
              go_wp2
              go_ret
              exact ⟨by rw [HRR.out]; rfl, BW.out⟩
            · have hi := bl_irrefl ps.toList
              go_wp2
              go_ret
              exact ⟨by rw [HRR.out]; rfl, BW.out⟩
      · obtain rfl : k = q := by omega
        have hkm' : (k : Int) < (n : Int) := by omega
        have HR2 : Hid (R = 1) := by
          show _ = _
          obtain ⟨p, hp⟩ : ∃ p, l[k]? = some p := ⟨_, List.getElem?_eq_getElem (by rw [← HN.out]; omega)⟩
          rw [HC.out, drop_at hp, show m.drop k = [] from by rw [List.drop_eq_nil_iff]; rw [← HQ.out]; exact Nat.le_refl _]
          rfl
        go_wp2
        go_ret
        exact ⟨by rw [HR2.out]; rfl, HW.out⟩
    · obtain rfl : k = n := by omega
      have hd : l.drop k = [] := by rw [List.drop_eq_nil_iff]; rw [← HN.out]; exact Nat.le_refl _
      by_cases hkm : k < q
      · have hkm' : (k : Int) < (q : Int) := by omega
        have HR2 : Hid (R = -1) := by
          show _ = _
          rw [HC.out, hd]
          cases hm2 : m.drop k with
          | nil => rw [List.drop_eq_nil_iff] at hm2; rw [← HQ.out] at hm2; omega
          | cons x y => rfl
        clear hd
        go_wp2
        go_ret
        exact ⟨by rw [HR2.out]; rfl, HW.out⟩
      · obtain rfl : k = q := by omega
        have HR2 : Hid (R = 0) := by
          show _ = _
          rw [HC.out, hd, show m.drop k = [] from by rw [List.drop_eq_nil_iff]; rw [← HQ.out]; exact Nat.le_refl _]
          rfl
        clear hd
        go_wp2
        go_ret
        exact ⟨by rw [HR2.out]; rfl, HW.out⟩
end Go.Proofs.YthffcdahjcpdfaaGreatDoor
