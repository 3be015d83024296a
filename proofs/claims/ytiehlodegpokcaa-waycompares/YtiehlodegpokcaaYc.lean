import Derived.Test.YtiehlodegpokcaaYb
namespace Go.Proofs.Ytiehlodegpokcaa
open Go.RowKit
set_option linter.unusedVariables false
set_option linter.unusedSimpArgs false

/-- Steps that lie in memory. -/
def Sts (W : World) (a : Option Addr) (l : List St) : Prop := l = [] ∨ ∃ b off, a = some ⟨b, off, none⟩ ∧ ∀ (i : Nat) (p : St), l[i]? = some p → W.cell? ⟨b, off + 3 * i, none⟩ = some (.int .u8 p.k) ∧ W.cell? ⟨b, off + 3 * i + 1, none⟩ = some (.string p.s) ∧ W.cell? ⟨b, off + 3 * i + 2, none⟩ = some (.int .i64 p.n)
theorem Sts.below {W W' : World} {a : Option Addr} {l : List St} (h : Sts W a l) (hb : Below W.heap.size W W') : Sts W' a l := by
  rcases h with rfl | ⟨b, off, rfl, h⟩
  · exact .inl rfl
  · refine .inr ⟨b, off, rfl, fun i p e => ?_⟩
    obtain ⟨h0, h1, h2⟩ := h i p e
    exact ⟨(hb.cell (p := ⟨b, off + 3 * i, none⟩) (block_lt_of_cell h0)).trans h0, (hb.cell (p := ⟨b, off + 3 * i + 1, none⟩) (block_lt_of_cell h1)).trans h1, (hb.cell (p := ⟨b, off + 3 * i + 2, none⟩) (block_lt_of_cell h2)).trans h2⟩
theorem Sts.at {W : World} {a : Option Addr} {l : List St} (h : Sts W a l) {i : Nat} (hi : i < l.length) : ∃ b off p, a = some ⟨b, off, none⟩ ∧ l[i]? = some p ∧ W.cell? ⟨b, off + 3 * i, none⟩ = some (.int .u8 p.k) ∧ W.cell? ⟨b, off + 3 * i + 1, none⟩ = some (.string p.s) ∧ W.cell? ⟨b, off + 3 * i + 2, none⟩ = some (.int .i64 p.n) := by
  rcases h with rfl | ⟨b, off, rfl, h⟩
  · simp at hi
  · obtain ⟨p, e⟩ : ∃ p, l[i]? = some p := ⟨_, List.getElem?_eq_getElem hi⟩
    obtain ⟨h0, h1, h2⟩ := h i p e
    exact ⟨b, off, p, rfl, e, h0, h1, h2⟩
theorem info_some {P : Program} {t : TypeId} {n : Nat} (h : (P.info? t).map (·.size) = some n) : ∃ i, P.info? t = some i ∧ i.size = n := by
  cases hq : P.info? t with
  | none => rw [hq] at h; simp at h
  | some i => rw [hq] at h; simp at h; exact ⟨i, rfl, h⟩
theorem sizeStep : (Try.prog.info? 28).map (·.size) = some 3 := by kernel_rfl
theorem indexS (b off n cap k : Nat) (w : World) (hk : k < n) :
    (Instr.indexAt 22 (.slice (some ⟨b, off, none⟩) n cap) (.int .i64 (k : Int))).run Try.prog w = .ok (.pointer (some ⟨b, off + 3 * k, none⟩)) w := by
  obtain ⟨i, hi, hs⟩ := info_some sizeStep
  have hu := Try.underlying22
  have he : Try.prog.elem 22 = 28 := by kernel_rfl
  rw [run_indexAt_slice (P := Try.prog) _ _ _ _ _ _ _ (by rw [he]; exact hu)]
  simp [hk, he, hi, hs, Go.sizeOf, typeInfo, Addr.add_mid]
theorem cL_step : ∀ {l m : List St} (k : Nat), l.take k = m.take k → k ≤ l.length → k ≤ m.length → cL l m = cL (l.drop k) (m.drop k)
  | _, _, 0, _, _, _ => by simp
  | [], _, k + 1, _, h, _ => by simp at h
  | _ :: _, [], k + 1, _, _, h => by simp at h
  | a :: x, b :: y, k + 1, h, h1, h2 => by
    simp only [List.take_succ_cons, List.cons.injEq] at h
    obtain ⟨rfl, h⟩ := h
    simp only [List.length_cons] at h1 h2
    have e : cSt a a = 0 := cSt_zero.2 rfl
    rw [List.drop_succ_cons, List.drop_succ_cons, ← cL_step k h (by omega) (by omega)]
    simp [cL, or2, e]
theorem drop_at {l : List St} {k : Nat} {p : St} (h : l[k]? = some p) : l.drop k = p :: l.drop (k + 1) := by
  have hk := (List.getElem?_eq_some_iff.1 h)
  obtain ⟨h1, h2⟩ := hk
  rw [List.drop_eq_getElem_cons h1, h2]
theorem take_at {l m : List St} {k : Nat} {p : St} (h : l.take k = m.take k) (h1 : l[k]? = some p) (h2 : m[k]? = some p) : l.take (k + 1) = m.take (k + 1) := by
  rw [List.take_add_one, List.take_add_one, h, h1, h2]
set_option maxRecDepth 100000 in
set_option maxHeartbeats 2000000 in
theorem cfunc_any (a b : Option Addr) (l m : List St) (c d : Nat) (w : World) (ha : Sts w a l) (hb : Sts w b m) (hl : l.length ≤ 140737488355328) (hm : m.length ≤ 140737488355328) :
    Calls Try.prog 14 #[.slice a l.length c, .slice b m.length d, .func (.func 15) #[] #[]] w fun e w' => e = .returned (.int .i64 (cL l m)) ∧ Below w.heap.size w w' := by
  have HA := Hid.mk' (fun wx (h : Below w.heap.size w wx) => ha.below h)
  have HB := Hid.mk' (fun wx (h : Below w.heap.size w wx) => hb.below h)
  obtain ⟨n, hn⟩ : ∃ n, n = l.length := ⟨_, rfl⟩
  obtain ⟨q, hq⟩ : ∃ q, q = m.length := ⟨_, rfl⟩
  rw [← hn] at hl ⊢
  rw [← hq] at hm ⊢
  have HN := Hid.mk' hn
  have HQ := Hid.mk' hq
  obtain ⟨R, hR⟩ : ∃ R, R = cL l m := ⟨_, rfl⟩
  rw [← hR]
  have HR := Hid.mk' hR
  clear ha hb hn hq hR
  go_enter Try.func14, Try.ntmps14
  go_wp2
  go_loopw [13] (fun i wr => ∃ k : Nat, k ≤ n ∧ k ≤ q ∧ i = .int .i64 k ∧ Hid (Below w.heap.size w wr) ∧ Hid (l.take k = m.take k)) (fun i _ => n - (intOf i).toNat)
  case atStart => exact ⟨0, by omega, by omega, rfl, Below.refl _ _, by simp [Hid]⟩
  case round =>
    obtain ⟨k, hk, hkq, rfl, HW, HT⟩ := hrel
    have HC : Hid (R = cL (l.drop k) (m.drop k)) := HR.out.trans (cL_step k HT.out (by rw [← HN.out]; omega) (by rw [← HQ.out]; omega))
    by_cases hkn : k < n
    · have hkn' : (k : Int) < (n : Int) := by omega
      obtain ⟨b1, o1, p, rfl, hp, c0, c1, c2⟩ := (HA.out wr HW.out).at (i := k) (by rw [← HN.out]; omega)
      have HP := Hid.mk' hp
      have ix := fun wx => indexS b1 o1 n c k wx hkn
      clear hp
      obtain ⟨pk, ps, pn⟩ := p
      simp only [] at c0 c1 c2
      have hw := HW.out.size
      obtain ⟨W1, hW1⟩ : ∃ W1, W1 = wr.alloc (.cells #[.int .u8 pk, .string ps, .int .i64 pn] 28) := ⟨_, rfl⟩
      have B1 : Hid (Below wr.heap.size wr W1) := by show Below _ _ _; rw [hW1]; exact (Below.refl _ _).alloc (Nat.le_refl _) _
      have G1 : Hid (W1.heap[wr.heap.size]? = some (.cells #[.int .u8 pk, .string ps, .int .i64 pn] 28 (0, 0))) := by show _ = _; rw [hW1]; exact heap_alloc_new _ _
      have Z1 : W1.heap.size = wr.heap.size + 1 := by rw [hW1]; simp
      have BW1 : Hid (Below w.heap.size w W1) := HW.out.trans (B1.out.mono hw)
      by_cases hkm : k < q
      · have hkm' : ¬ (q : Int) ≤ (k : Int) := by omega
        obtain ⟨b2, o2, p2, rfl, hp2, d0, d1, d2⟩ := (HB.out W1 BW1.out).at (i := k) (by rw [← HQ.out]; omega)
        have HP2 := Hid.mk' hp2
        have ix2 := fun wx => indexS b2 o2 q d k wx hkm
        clear hp2
        obtain ⟨pk2, ps2, pn2⟩ := p2
        simp only [] at d0 d1 d2
        obtain ⟨W2, hW2⟩ : ∃ W2, W2 = W1.alloc (.cells #[.int .u8 pk2, .string ps2, .int .i64 pn2] 28) := ⟨_, rfl⟩
        have B2 : Hid (Below W1.heap.size W1 W2) := by show Below _ _ _; rw [hW2]; exact (Below.refl _ _).alloc (Nat.le_refl _) _
        have G2 : W2.heap[W1.heap.size]? = some (.cells #[.int .u8 pk2, .string ps2, .int .i64 pn2] 28 (0, 0)) := by rw [hW2]; exact heap_alloc_new _ _
        rw [Z1] at G2
        have G1' : W2.heap[wr.heap.size]? = some (.cells #[.int .u8 pk, .string ps, .int .i64 pn] 28 (0, 0)) := by rw [B2.out.block _ (by omega)]; exact G1.out
        have BW2 : Hid (Below w.heap.size w W2) := BW1.out.trans (B2.out.mono (by omega))
        have x0 := (cell_of_row _ _ 0 _ _ _ G1').trans (show (#[.int .u8 pk, .string ps, .int .i64 pn] : Array Value)[0]? = some (.int .u8 pk) from rfl)
        have x1 := (cell_of_row _ _ 1 _ _ _ G1').trans (show (#[.int .u8 pk, .string ps, .int .i64 pn] : Array Value)[1]? = some (.string ps) from rfl)
        have x2 := (cell_of_row _ _ 2 _ _ _ G1').trans (show (#[.int .u8 pk, .string ps, .int .i64 pn] : Array Value)[2]? = some (.int .i64 pn) from rfl)
        have y0 := (cell_of_row _ _ 0 _ _ _ G2).trans (show (#[.int .u8 pk2, .string ps2, .int .i64 pn2] : Array Value)[0]? = some (.int .u8 pk2) from rfl)
        have y1 := (cell_of_row _ _ 1 _ _ _ G2).trans (show (#[.int .u8 pk2, .string ps2, .int .i64 pn2] : Array Value)[1]? = some (.string ps2) from rfl)
        have y2 := (cell_of_row _ _ 2 _ _ _ G2).trans (show (#[.int .u8 pk2, .string ps2, .int .i64 pn2] : Array Value)[2]? = some (.int .i64 pn2) from rfl)
        have HCS : Hid (Calls Try.prog 15 #[.agg #[.int .u8 pk, .string ps, .int .i64 pn], .agg #[.int .u8 pk2, .string ps2, .int .i64 pn2]] W2 fun e w' => e = .returned (.int .i64 (cSt ⟨pk, ps, pn⟩ ⟨pk2, ps2, pn2⟩)) ∧ Below W2.heap.size W2 w') := csteps_any ⟨pk, ps, pn⟩ ⟨pk2, ps2, pn2⟩ W2
        have HC2 : Hid (R = or2 (cSt ⟨pk, ps, pn⟩ ⟨pk2, ps2, pn2⟩) (cL (l.drop (k + 1)) (m.drop (k + 1)))) := by show _ = _; rw [HC.out, drop_at HP.out, drop_at HP2.out]; rfl
        have HC3 : Hid (cSt ⟨pk, ps, pn⟩ ⟨pk2, ps2, pn2⟩ = 0 → l.take (k + 1) = m.take (k + 1)) := fun h => by
          have e := cSt_zero.1 h
          have h1 := HP.out
          rw [e] at h1
          exact take_at HT.out h1 HP2.out
        clear G1 G1' G2 HC HP HP2 HT
        generalize cSt ⟨pk, ps, pn⟩ ⟨pk2, ps2, pn2⟩ = C at *
        have HW2 := Hid.mk' hW2
        clear hW2
        go_upto_region 6 with fail
        rw [← hW1]
        clear hW1 c0 c1 c2
        go_upto_region 7 with fail
        rw [← HW2.out]
        clear HW2 d0 d1 d2
        go_wp2_with fail
        refine HCS.out.mono ?_
        rintro e w3 ⟨rfl, b3⟩
        have BW3 : Hid (Below w.heap.size w w3) := BW2.out.trans (b3.mono (by have := B2.out.size; omega))
        clear HCS x0 x1 x2 y0 y1 y2 b3
        by_cases hC : C = 0
        · have HT2 : Hid (l.take (k + 1) = m.take (k + 1)) := HC3.out hC
          subst hC
          go_wp2
          exact ⟨⟨k + 1, by omega, by omega, by go_num, BW3, HT2⟩, by simp [intOf]; omega⟩
        · have HR2 : Hid (R = C) := by show _ = _; rw [HC2.out]; unfold or2; rw [if_neg hC]
          go_wp2
          go_ret
          exact ⟨by rw [HR2.out]; rfl, BW3.out⟩
      · obtain rfl : k = q := by omega
        have HR2 : Hid (R = 1) := by
          show _ = _
          rw [HC.out, drop_at HP.out, show m.drop k = [] from by rw [List.drop_eq_nil_iff]; rw [← HQ.out]; exact Nat.le_refl _]
          rfl
        go_upto_region 4 with fail
        rw [← hW1]
        clear hW1 c0 c1 c2
        go_wp2
        go_ret
        exact ⟨by rw [HR2.out]; rfl, BW1.out⟩
    · obtain rfl : k = n := by omega
      have hd : l.drop k = [] := by rw [List.drop_eq_nil_iff]; rw [← HN.out]; exact Nat.le_refl _
      by_cases hkm : k < q
      · have hkm' : (k : Int) < (q : Int) := by omega
        have HR2 : Hid (R = -1) := by
          show _ = _
          rw [HC.out, hd]
          cases hm2 : m.drop k with
          | nil => rw [List.drop_eq_nil_iff] at hm2; rw [← HQ.out] at hm2; omega
          | cons x y => rfl
        clear hd
        go_wp2
        go_ret
        exact ⟨by rw [HR2.out]; rfl, HW.out⟩
      · obtain rfl : k = q := by omega
        have HR2 : Hid (R = 0) := by
          show _ = _
          rw [HC.out, hd, show m.drop k = [] from by rw [List.drop_eq_nil_iff]; rw [← HQ.out]; exact Nat.le_refl _]
          rfl
        clear hd
        go_wp2
        go_ret
        exact ⟨by rw [HR2.out]; rfl, HW.out⟩
end Go.Proofs.Ytiehlodegpokcaa
