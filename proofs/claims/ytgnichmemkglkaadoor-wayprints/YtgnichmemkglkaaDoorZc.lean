import Derived.Test.YtgnichmemkglkaaDoorZa
import Derived.Test.YtgnichmemkglkaaDoorZb
namespace Go.Proofs.YtgnichmemkglkaaDoor
open Go.RowKit
set_option linter.unusedVariables false
set_option linter.unusedSimpArgs false

/-- Whether a step is right. -/
def stepB (p : St) : Bool := if p.k = 1 then keyB p.s && decide (p.n = 0) else if p.k = 2 ∨ p.k = 3 then decide (p.s.size = 0) && decide (0 ≤ p.n) && decide (p.n ≤ 2147483647) else false
/-- What is wrong with a way. -/
def rightL (l : List St) : Int := if 32 < l.length then 6 else if l.all stepB = true then 0 else 41
theorem empty_size {s : ByteArray} (h : s.size = 0) : s.toList.isEmpty = true := by
  rw [ByteArray.toList_eq, show s.data.toList = [] from List.eq_nil_of_length_eq_zero (by rw [Array.length_toList]; exact h)]
  rfl
set_option maxRecDepth 100000 in
set_option maxHeartbeats 2000000 in
theorem step_any (k : Int) (s : ByteArray) (n : Int) (w : World) (hT : K.V.Tabs w) :
    Calls Tryd.prog 32 #[.agg #[.int .u8 k, .string s, .int .i64 n]] w fun e w' => e = .returned (.bool (stepB ⟨k, s, n⟩)) ∧ Below w.heap.size w w' := by
  by_cases h1 : k = 1
  · subst h1
    obtain ⟨W0, hW0⟩ : ∃ W, W = w.alloc (.cells #[.int .u8 1, .string s, .int .i64 n] 35) := ⟨_, rfl⟩
    have bw : Below w.heap.size w W0 := by rw [hW0]; exact (Below.refl _ _).alloc (Nat.le_refl _) _
    have g := heap_alloc_new w (.cells #[.int .u8 1, .string s, .int .i64 n] 35)
    rw [← hW0] at g
    have H := Hid.mk' (wkey_any s W0 (hT.below bw))
    have HX : Hid (∀ w1, Below W0.heap.size W0 w1 → w1.cell? ⟨w.heap.size, 2, none⟩ = some (.int .i64 n) ∧ Below w.heap.size w w1) := fun w1 hb => by
      have c2 : W0.cell? ⟨w.heap.size, 2, none⟩ = some (.int .i64 n) := (cell_of_row _ _ 2 _ _ _ g).trans rfl
      exact ⟨(hb.cell (block_lt_of_cell c2)).trans c2, bw.trans (hb.mono bw.size)⟩
    have HW0 := Hid.mk' hW0
    have HB : Hid (stepB ⟨1, s, n⟩ = (keyB s && decide (n = 0))) := rfl
    generalize stepB ⟨1, s, n⟩ = B at *
    generalize keyB s = Q at *
    clear g bw hW0 hT
    go_enter Tryd.func32, Tryd.ntmps32
    go_wp2_with fail
    rw [← HW0.out]
    refine H.out.mono ?_
    rintro e w1 ⟨rfl, b1⟩
    skip
    obtain ⟨c2, bb⟩ := HX.out _ (b1)
    have BB := Hid.mk' bb
    clear H HX HW0 bb
    cases Q with
    | true =>
      by_cases hn : n = 0
      · have HB2 : Hid (B = true) := by show _ = _; rw [HB.out, decide_eq_true hn]; rfl
        clear HB
        go_wp2
        go_ret
        exact ⟨by rw [HB2.out]; rfl, BB.out⟩
      · have HB2 : Hid (B = false) := by show _ = _; rw [HB.out, decide_eq_false hn]; rfl
        clear HB
        go_wp2
        go_ret
        exact ⟨by rw [HB2.out]; simp [hn], BB.out⟩
    | false =>
      have HB2 : Hid (B = false) := HB.out
      clear HB
      go_wp2
      go_ret
      exact ⟨by rw [HB2.out]; rfl, BB.out⟩
  · by_cases h23 : k = 2 ∨ k = 3
    · have HB : Hid (stepB ⟨k, s, n⟩ = (decide (s.size = 0) && decide (0 ≤ n) && decide (n ≤ 2147483647))) := by
        show _ = _
        unfold stepB
        rw [if_neg h1, if_pos h23]
      generalize stepB ⟨k, s, n⟩ = B at *
      clear hT
      by_cases hz : s.size = 0
      · have e0 : s.toList.isEmpty = true := empty_size hz
        by_cases hn : 0 ≤ n
        · by_cases hm : n ≤ 2147483647
          · have HB2 : Hid (B = true) := by show _ = _; rw [HB.out, decide_eq_true hz, decide_eq_true hn, decide_eq_true hm]; rfl
            clear HB
            rcases h23 with rfl | rfl
            · go_enter Tryd.func32, Tryd.ntmps32
              go_wp2
              go_ret
              exact ⟨by rw [HB2.out]; rfl, (Below.refl _ _).alloc (Nat.le_refl _) _⟩
            · go_enter Tryd.func32, Tryd.ntmps32
              go_wp2
              go_ret
              exact ⟨by rw [HB2.out]; rfl, (Below.refl _ _).alloc (Nat.le_refl _) _⟩
          · have HB2 : Hid (B = false) := by show _ = _; rw [HB.out, decide_eq_true hz, decide_eq_true hn, decide_eq_false hm]; rfl
            clear HB
            rcases h23 with rfl | rfl
            · go_enter Tryd.func32, Tryd.ntmps32
              go_wp2
              go_ret
              exact ⟨by rw [HB2.out]; rfl, (Below.refl _ _).alloc (Nat.le_refl _) _⟩
            · go_enter Tryd.func32, Tryd.ntmps32
              go_wp2
              go_ret
              exact ⟨by rw [HB2.out]; rfl, (Below.refl _ _).alloc (Nat.le_refl _) _⟩
        · have HB2 : Hid (B = false) := by show _ = _; rw [HB.out, decide_eq_true hz, decide_eq_false hn]; rfl
          clear HB
          rcases h23 with rfl | rfl
          · go_enter Tryd.func32, Tryd.ntmps32
            go_wp2
            go_ret
            exact ⟨by rw [HB2.out]; rfl, (Below.refl _ _).alloc (Nat.le_refl _) _⟩
          · go_enter Tryd.func32, Tryd.ntmps32
            go_wp2
            go_ret
            exact ⟨by rw [HB2.out]; rfl, (Below.refl _ _).alloc (Nat.le_refl _) _⟩
      · have e0 : s.toList.isEmpty = false := K.V.not_empty s (by omega)
        have HB2 : Hid (B = false) := by show _ = _; rw [HB.out, decide_eq_false hz]; rfl
        clear HB
        rcases h23 with rfl | rfl
        · go_enter Tryd.func32, Tryd.ntmps32
          go_wp2
          go_ret
          exact ⟨by rw [HB2.out]; rfl, (Below.refl _ _).alloc (Nat.le_refl _) _⟩
        · go_enter Tryd.func32, Tryd.ntmps32
          go_wp2
          go_ret
          exact ⟨by rw [HB2.out]; rfl, (Below.refl _ _).alloc (Nat.le_refl _) _⟩
    · have HB : Hid (stepB ⟨k, s, n⟩ = false) := by
        show _ = _
        unfold stepB
        rw [if_neg h1, if_neg h23]
      generalize stepB ⟨k, s, n⟩ = B at *
      clear hT
      have h2 : ¬ k = 2 := fun h => h23 (.inl h)
      have h3 : ¬ k = 3 := fun h => h23 (.inr h)
      clear h23
      go_enter Tryd.func32, Tryd.ntmps32
      go_wp2
      go_ret
      exact ⟨by rw [HB.out]; rfl, (Below.refl _ _).alloc (Nat.le_refl _) _⟩
set_option maxRecDepth 100000 in
set_option maxHeartbeats 2000000 in
theorem rstep_any (k : Int) (s : ByteArray) (n : Int) (w : World) :
    Calls Tryd.prog 20 #[.agg #[.int .u8 k, .string s, .int .i64 n]] w fun e w' => e = .returned (.bool (stepB ⟨k, s, n⟩)) ∧ Below w.heap.size w w' := by
  by_cases h1 : k = 1
  · subst h1
    obtain ⟨W0, hW0⟩ : ∃ W, W = w.alloc (.cells #[.int .u8 1, .string s, .int .i64 n] 35) := ⟨_, rfl⟩
    have bw : Below w.heap.size w W0 := by rw [hW0]; exact (Below.refl _ _).alloc (Nat.le_refl _) _
    have g := heap_alloc_new w (.cells #[.int .u8 1, .string s, .int .i64 n] 35)
    rw [← hW0] at g
    have H := Hid.mk' (rkey_any s W0)
    have HX : Hid (∀ w1, Below W0.heap.size W0 w1 → w1.cell? ⟨w.heap.size, 2, none⟩ = some (.int .i64 n) ∧ Below w.heap.size w w1) := fun w1 hb => by
      have c2 : W0.cell? ⟨w.heap.size, 2, none⟩ = some (.int .i64 n) := (cell_of_row _ _ 2 _ _ _ g).trans rfl
      exact ⟨(hb.cell (block_lt_of_cell c2)).trans c2, bw.trans (hb.mono bw.size)⟩
    have HW0 := Hid.mk' hW0
    have HB : Hid (stepB ⟨1, s, n⟩ = (keyB s && decide (n = 0))) := rfl
    generalize stepB ⟨1, s, n⟩ = B at *
    generalize keyB s = Q at *
    clear g bw hW0 
    go_enter Tryd.func20, Tryd.ntmps20
    go_wp2_with fail
    rw [← HW0.out]
    refine H.out.mono ?_
    rintro e w1 ⟨rfl, b1⟩
    subst b1
    obtain ⟨c2, bb⟩ := HX.out _ (Below.refl _ _)
    have BB := Hid.mk' bb
    clear H HX HW0 bb
    cases Q with
    | true =>
      by_cases hn : n = 0
      · have HB2 : Hid (B = true) := by show _ = _; rw [HB.out, decide_eq_true hn]; rfl
        clear HB
        go_wp2
        go_ret
        exact ⟨by rw [HB2.out]; rfl, BB.out⟩
      · have HB2 : Hid (B = false) := by show _ = _; rw [HB.out, decide_eq_false hn]; rfl
        clear HB
        go_wp2
        go_ret
        exact ⟨by rw [HB2.out]; simp [hn], BB.out⟩
    | false =>
      have HB2 : Hid (B = false) := HB.out
      clear HB
      go_wp2
      go_ret
      exact ⟨by rw [HB2.out]; rfl, BB.out⟩
  · by_cases h23 : k = 2 ∨ k = 3
    · have HB : Hid (stepB ⟨k, s, n⟩ = (decide (s.size = 0) && decide (0 ≤ n) && decide (n ≤ 2147483647))) := by
        show _ = _
        unfold stepB
        rw [if_neg h1, if_pos h23]
      generalize stepB ⟨k, s, n⟩ = B at *
      skip
      by_cases hz : s.size = 0
      · have e0 : s.toList.isEmpty = true := empty_size hz
        by_cases hn : 0 ≤ n
        · by_cases hm : n ≤ 2147483647
          · have HB2 : Hid (B = true) := by show _ = _; rw [HB.out, decide_eq_true hz, decide_eq_true hn, decide_eq_true hm]; rfl
            clear HB
            rcases h23 with rfl | rfl
            · go_enter Tryd.func20, Tryd.ntmps20
              go_wp2
              go_ret
              exact ⟨by rw [HB2.out]; rfl, (Below.refl _ _).alloc (Nat.le_refl _) _⟩
            · go_enter Tryd.func20, Tryd.ntmps20
              go_wp2
              go_ret
              exact ⟨by rw [HB2.out]; rfl, (Below.refl _ _).alloc (Nat.le_refl _) _⟩
          · have HB2 : Hid (B = false) := by show _ = _; rw [HB.out, decide_eq_true hz, decide_eq_true hn, decide_eq_false hm]; rfl
            clear HB
            rcases h23 with rfl | rfl
            · go_enter Tryd.func20, Tryd.ntmps20
              go_wp2
              go_ret
              exact ⟨by rw [HB2.out]; rfl, (Below.refl _ _).alloc (Nat.le_refl _) _⟩
            · go_enter Tryd.func20, Tryd.ntmps20
              go_wp2
              go_ret
              exact ⟨by rw [HB2.out]; rfl, (Below.refl _ _).alloc (Nat.le_refl _) _⟩
        · have HB2 : Hid (B = false) := by show _ = _; rw [HB.out, decide_eq_true hz, decide_eq_false hn]; rfl
          clear HB
          rcases h23 with rfl | rfl
          · go_enter Tryd.func20, Tryd.ntmps20
            go_wp2
            go_ret
            exact ⟨by rw [HB2.out]; rfl, (Below.refl _ _).alloc (Nat.le_refl _) _⟩
          · go_enter Tryd.func20, Tryd.ntmps20
            go_wp2
            go_ret
            exact ⟨by rw [HB2.out]; rfl, (Below.refl _ _).alloc (Nat.le_refl _) _⟩
      · have e0 : s.toList.isEmpty = false := K.V.not_empty s (by omega)
        have HB2 : Hid (B = false) := by show _ = _; rw [HB.out, decide_eq_false hz]; rfl
        clear HB
        rcases h23 with rfl | rfl
        · go_enter Tryd.func20, Tryd.ntmps20
          go_wp2
          go_ret
          exact ⟨by rw [HB2.out]; rfl, (Below.refl _ _).alloc (Nat.le_refl _) _⟩
        · go_enter Tryd.func20, Tryd.ntmps20
          go_wp2
          go_ret
          exact ⟨by rw [HB2.out]; rfl, (Below.refl _ _).alloc (Nat.le_refl _) _⟩
    · have HB : Hid (stepB ⟨k, s, n⟩ = false) := by
        show _ = _
        unfold stepB
        rw [if_neg h1, if_neg h23]
      generalize stepB ⟨k, s, n⟩ = B at *
      skip
      have h2 : ¬ k = 2 := fun h => h23 (.inl h)
      have h3 : ¬ k = 3 := fun h => h23 (.inr h)
      clear h23
      go_enter Tryd.func20, Tryd.ntmps20
      go_wp2
      go_ret
      exact ⟨by rw [HB.out]; rfl, (Below.refl _ _).alloc (Nat.le_refl _) _⟩
theorem all_no {l : List St} {k : Nat} {p : St} (h : l[k]? = some p) (hp : stepB p = false) : l.all stepB = false := by
  cases ha : l.all stepB with
  | false => rfl
  | true =>
    have := List.all_eq_true.1 ha p (List.mem_of_getElem? h)
    rw [hp] at this
    cases this
theorem all_yes {l : List St} (h : ∀ (i : Nat) (p : St), l[i]? = some p → stepB p = true) : l.all stepB = true := by
  rw [List.all_eq_true]
  intro p hp
  obtain ⟨i, hi⟩ := List.getElem?_of_mem hp
  exact h i p hi
set_option maxRecDepth 100000 in
set_option maxHeartbeats 2000000 in
theorem rright_l (a : Option Addr) (l : List St) (c : Nat) (w : World) (ha : Sts w a l) (hl : l.length ≤ 140737488355328) :
    Calls Tryd.prog 9 #[.slice a l.length c] w fun e w' => e = .returned (.int .i64 (rightL l)) ∧ Below w.heap.size w w' := by
  obtain ⟨VV, hVV⟩ : ∃ V, V = rightL l := ⟨_, rfl⟩
  have hv1 : 32 < l.length → VV = 6 := fun h => by rw [hVV]; unfold rightL; rw [if_pos h]
  have hv2 : l.length ≤ 32 → l.all stepB = true → VV = 0 := fun h h2 => by rw [hVV]; unfold rightL; rw [if_neg (by omega), if_pos h2]
  have hv3 : l.length ≤ 32 → l.all stepB = false → VV = 41 := fun h h2 => by rw [hVV]; unfold rightL; rw [if_neg (by omega), if_neg (by rw [h2]; decide)]
  rw [← hVV]
  clear hVV
  have HA := Hid.mk' (fun wx (h : Below w.heap.size w wx) => ha.below h)
  obtain ⟨n, hn⟩ : ∃ n, n = l.length := ⟨_, rfl⟩
  have HR : Hid ((32 < n → VV = 6) ∧ (n ≤ 32 → l.all stepB = true → VV = 0) ∧ (n ≤ 32 → l.all stepB = false → VV = 41)) := by
    rw [hn]
    exact ⟨hv1, hv2, hv3⟩
  rw [← hn] at hl ⊢
  have HN := Hid.mk' hn
  clear ha hn hv1 hv2 hv3
  by_cases h32 : 32 < n
  · have h32' : (32 : Int) < (n : Int) := by omega
    have HV : Hid (VV = 6) := HR.out.1 h32
    clear HR
    go_enter Tryd.func9, Tryd.ntmps9
    go_wp2
    go_ret
    exact ⟨by rw [HV.out]; rfl, Below.refl _ _⟩
  · have h32' : ¬ (32 : Int) < (n : Int) := by omega
    go_enter Tryd.func9, Tryd.ntmps9
    go_wp2
    go_loopw [3] (fun i wr => ∃ k : Nat, k ≤ n ∧ i = .int .i64 k ∧ Hid (Below w.heap.size w wr) ∧ Hid (∀ (j : Nat) (p : St), j < k → l[j]? = some p → stepB p = true)) (fun i _ => n - (intOf i).toNat)
    case atStart => exact ⟨0, by omega, rfl, Below.refl _ _, fun j p hj => by omega⟩
    case round =>
      obtain ⟨k, hk, rfl, HW, HK⟩ := hrel
      by_cases hkn : k < n
      · have hkn' : (k : Int) < (n : Int) := by omega
        obtain ⟨b1, o1, p, rfl, hp, c0, c1, c2⟩ := (HA.out wr HW.out).at (i := k) (by rw [← HN.out]; omega)
        have HP := Hid.mk' hp
        have ix := fun wx => indexS b1 o1 n c k wx hkn
        clear hp
        obtain ⟨pk, ps, pn⟩ := p
        simp only [] at c0 c1 c2
        have HST : Hid (Calls Tryd.prog 20 #[.agg #[.int .u8 pk, .string ps, .int .i64 pn]] wr fun e w' => e = .returned (.bool (stepB ⟨pk, ps, pn⟩)) ∧ Below wr.heap.size wr w') := rstep_any pk ps pn wr
        generalize hB : stepB ⟨pk, ps, pn⟩ = B at *
        cases B with
        | true =>
          have HK2 : Hid (∀ (j : Nat) (p : St), j < k + 1 → l[j]? = some p → stepB p = true) := fun j p hj hpj => by
            rcases Nat.lt_or_ge j k with h | h
            · exact HK.out j p h hpj
            · obtain rfl : j = k := by omega
              obtain rfl := Option.some.inj (HP.out.symm.trans hpj)
              exact hB
          clear hB HK HP
          go_wp2_with fail
          refine HST.out.mono ?_
          rintro e w1 ⟨rfl, b1⟩
          have BW : Hid (Below w.heap.size w w1) := HW.out.trans (b1.mono HW.out.size)
          clear b1 HST
          go_wp2
          go_roundw
          case rel => exact ⟨k + 1, by omega, by go_num, BW, HK2⟩
          case measure => simp [intOf]; omega
        | false =>
          have HV : Hid (VV = 41) := HR.out.2.2 (by omega) (all_no HP.out hB)
          clear hB HK HP HR
          go_wp2_with fail
          refine HST.out.mono ?_
          rintro e w1 ⟨rfl, b1⟩
          have BW : Hid (Below w.heap.size w w1) := HW.out.trans (b1.mono HW.out.size)
          clear b1 HST
          go_wp2
          go_ret
          exact ⟨by rw [HV.out]; rfl, BW.out⟩
      · have hkn' : ¬ (k : Int) < (n : Int) := by omega
        have HV : Hid (VV = 0) := HR.out.2.1 (by omega) (all_yes fun i p hi => HK.out i p (by have := (List.getElem?_eq_some_iff.1 hi).1; rw [← HN.out] at this; omega) hi)
        clear HR HK
        go_wp2
        go_ret
        exact ⟨by rw [HV.out]; rfl, HW.out⟩
/-- The error that check tells. -/
def chkV (l : List St) (a0 a1 : Addr) : Value := if 32 < l.length then .iface 127 (.pointer (some a0)) else if l.all stepB = true then .nilIface else .iface 127 (.pointer (some a1))
set_option maxRecDepth 100000 in
set_option maxHeartbeats 2000000 in
theorem check_l (a : Option Addr) (l : List St) (c : Nat) (w : World) (ha : Sts w a l) (hl : l.length ≤ 140737488355328) (hT : K.V.Tabs w) (a0 a1 a2 : Addr) (hE : Snt w a0 a1 a2) :
    Calls Tryd.prog 19 #[.slice a l.length c] w fun e w' => e = .returned (chkV l a0 a1) ∧ Below w.heap.size w w' := by
  obtain ⟨VV, hVV⟩ : ∃ V, V = chkV l a0 a1 := ⟨_, rfl⟩
  have hv1 : 32 < l.length → VV = .iface 127 (.pointer (some a0)) := fun h => by rw [hVV]; unfold chkV; rw [if_pos h]
  have hv2 : l.length ≤ 32 → l.all stepB = true → VV = .nilIface := fun h h2 => by rw [hVV]; unfold chkV; rw [if_neg (by omega), if_pos h2]
  have hv3 : l.length ≤ 32 → l.all stepB = false → VV = .iface 127 (.pointer (some a1)) := fun h h2 => by rw [hVV]; unfold chkV; rw [if_neg (by omega), if_neg (by rw [h2]; decide)]
  rw [← hVV]
  have HTT := Hid.mk' hT
  have HEE := Hid.mk' hE
  have eg0 := hE.g0
  clear hVV hT hE
  have HA := Hid.mk' (fun wx (h : Below w.heap.size w wx) => ha.below h)
  obtain ⟨n, hn⟩ : ∃ n, n = l.length := ⟨_, rfl⟩
  have HR : Hid ((32 < n → VV = .iface 127 (.pointer (some a0))) ∧ (n ≤ 32 → l.all stepB = true → VV = .nilIface) ∧ (n ≤ 32 → l.all stepB = false → VV = .iface 127 (.pointer (some a1)))) := by
    rw [hn]
    exact ⟨hv1, hv2, hv3⟩
  rw [← hn] at hl ⊢
  have HN := Hid.mk' hn
  clear ha hn hv1 hv2 hv3
  by_cases h32 : 32 < n
  · have h32' : (32 : Int) < (n : Int) := by omega
    have HV : Hid (VV = .iface 127 (.pointer (some a0))) := HR.out.1 h32
    clear HR
    go_enter Tryd.func19, Tryd.ntmps19
    go_wp2
    go_ret
    exact ⟨by rw [HV.out]; rfl, Below.refl _ _⟩
  · have h32' : ¬ (32 : Int) < (n : Int) := by omega
    go_enter Tryd.func19, Tryd.ntmps19
    go_wp2
    go_loopw [11] (fun i wr => ∃ k : Nat, k ≤ n ∧ i = .int .i64 k ∧ Hid (Below w.heap.size w wr) ∧ Hid (∀ (j : Nat) (p : St), j < k → l[j]? = some p → stepB p = true)) (fun i _ => n - (intOf i).toNat)
    case atStart => exact ⟨0, by omega, rfl, Below.refl _ _, fun j p hj => by omega⟩
    case round =>
      obtain ⟨k, hk, rfl, HW, HK⟩ := hrel
      by_cases hkn : k < n
      · have hkn' : (k : Int) < (n : Int) := by omega
        obtain ⟨b1, o1, p, rfl, hp, c0, c1, c2⟩ := (HA.out wr HW.out).at (i := k) (by rw [← HN.out]; omega)
        have HP := Hid.mk' hp
        have ix := fun wx => indexS b1 o1 n c k wx hkn
        clear hp
        obtain ⟨pk, ps, pn⟩ := p
        simp only [] at c0 c1 c2
        obtain ⟨W1, hW1⟩ : ∃ W, W = wr.alloc (.cells #[.int .u8 pk, .string ps, .int .i64 pn] 35) := ⟨_, rfl⟩
        have bw1 : Below w.heap.size w W1 := HW.out.trans (by rw [hW1]; exact ((Below.refl _ _).alloc (Nat.le_refl _) _).mono HW.out.size)
        have HST : Hid (Calls Tryd.prog 32 #[.agg #[.int .u8 pk, .string ps, .int .i64 pn]] W1 fun e w' => e = .returned (.bool (stepB ⟨pk, ps, pn⟩)) ∧ Below W1.heap.size W1 w') := step_any pk ps pn W1 (HTT.out.below bw1)
        rw [hW1] at HST bw1
        clear hW1
        generalize hB : stepB ⟨pk, ps, pn⟩ = B at *
        cases B with
        | true =>
          have HK2 : Hid (∀ (j : Nat) (p : St), j < k + 1 → l[j]? = some p → stepB p = true) := fun j p hj hpj => by
            rcases Nat.lt_or_ge j k with h | h
            · exact HK.out j p h hpj
            · obtain rfl : j = k := by omega
              obtain rfl := Option.some.inj (HP.out.symm.trans hpj)
              exact hB
          clear hB HK HP
          go_wp2_with fail
          refine HST.out.mono ?_
          rintro e w1 ⟨rfl, b1⟩
          have BW : Hid (Below w.heap.size w w1) := bw1.trans (b1.mono bw1.size)
          clear b1 HST
          go_wp2
          go_roundw
          case rel => exact ⟨k + 1, by omega, by go_num, BW, HK2⟩
          case measure => simp [intOf]; omega
        | false =>
          have HV : Hid (VV = .iface 127 (.pointer (some a1))) := HR.out.2.2 (by omega) (all_no HP.out hB)
          clear hB HK HP HR
          go_wp2_with fail
          refine HST.out.mono ?_
          rintro e w1 ⟨rfl, b1⟩
          have BW : Hid (Below w.heap.size w w1) := bw1.trans (b1.mono bw1.size)
          clear b1 HST
          have eg1 := (HEE.out.below BW.out).g1
          go_wp2
          go_ret
          exact ⟨by rw [HV.out]; rfl, BW.out⟩
      · have hkn' : ¬ (k : Int) < (n : Int) := by omega
        have HV : Hid (VV = .nilIface) := HR.out.2.1 (by omega) (all_yes fun i p hi => HK.out i p (by have := (List.getElem?_eq_some_iff.1 hi).1; rw [← HN.out] at this; omega) hi)
        clear HR HK
        go_wp2
        go_ret
        exact ⟨by rw [HV.out]; rfl, HW.out⟩
set_option maxRecDepth 100000 in
set_option maxHeartbeats 2000000 in
theorem right_l (a : Option Addr) (l : List St) (c : Nat) (w : World) (ha : Sts w a l) (hl : l.length ≤ 140737488355328) (hT : K.V.Tabs w) (a0 a1 a2 : Addr) (hE : Snt w a0 a1 a2) :
    Calls Tryd.prog 8 #[.slice a l.length c] w fun e w' => e = .returned (.int .i64 (rightL l)) ∧ Below w.heap.size w w' := by
  have HC := Hid.mk' (check_l a l c w ha hl hT a0 a1 a2 hE)
  have HN : Hid (∀ wx, Below w.heap.size w wx → Calls Tryd.prog 18 #[chkV l a0 a1] wx fun e w' => e = .returned (.int .i64 (rightL l)) ∧ w' = wx) := fun wx hb => by
    have hE2 := hE.below hb
    unfold chkV rightL
    by_cases h : 32 < l.length
    · rw [if_pos h, if_pos h]; exact number_long a0 a1 a2 wx hE2
    · rw [if_neg h, if_neg h]
      by_cases h2 : l.all stepB = true
      · rw [if_pos h2, if_pos h2]; exact number_nil a0 a1 a2 wx hE2
      · rw [if_neg h2, if_neg h2]; exact number_step a0 a1 a2 wx hE2
  generalize chkV l a0 a1 = V at *
  generalize rightL l = R at *
  generalize l.length = n at *
  clear ha hT hE
  go_enter Tryd.func8, Tryd.ntmps8
  go_wp2_with fail
  refine HC.out.mono ?_
  rintro e w1 ⟨rfl, b1⟩
  have HN2 := Hid.mk' (HN.out w1 b1)
  clear HN HC
  go_wp2_with fail
  refine HN2.out.mono ?_
  rintro e _ ⟨rfl, rfl⟩
  go_wp2
  go_ret
  exact ⟨rfl, b1⟩
end Go.Proofs.YtgnichmemkglkaaDoor
