import Derived.Test.YthffcdahjcpdfaaGreatDoorGWa
import Derived.Test.YthffcdahjcpdfaaGreatDoorGKVf
import Derived.Test.YthffcdahjcpdfaaGreatDoorGYf
import Derived.Lib.BufferMore
import Derived.Deep.QuietTactic
import Derived.BigQuiet
namespace Go.Proofs.YthffcdahjcpdfaaGreatDoor
open Go.RowKit
set_option linter.unusedVariables false
set_option linter.unusedSimpArgs false

/-- Whether a step is right. -/
def stepB (p : St) : Bool := if p.k = 1 then keyB p.s && decide (p.n = 0) else if p.k = 2 ∨ p.k = 3 then decide (p.s.size = 0) && decide (0 ≤ p.n) && decide (p.n ≤ 2147483647) else false
/-- What is wrong with a way. -/
def rightL (l : List St) : Int := if 32 < l.length then 6 else if l.all stepB = true then 0 else 41
theorem empty_size {s : ByteArray} (h : s.size = 0) : s.toList.isEmpty = true := by
  rw [ByteArray.toList_eq, show s.data.toList = [] from List.eq_nil_of_length_eq_zero (by rw [Array.length_toList]; exact h)]
  rfl
set_option maxRecDepth 100000 in
set_option maxHeartbeats 2000000 in
theorem step_any (k : Int) (s : ByteArray) (n : Int) (w : World) (hT : K.V.Tabs w) :
    Calls Tryz.prog 51 #[.agg #[.int .u8 k, .string s, .int .i64 n]] w fun e w' => e = .returned (.bool (stepB ⟨k, s, n⟩)) ∧ Below w.heap.size w w' := by
  by_cases h1 : k = 1
  · subst h1
    obtain ⟨W0, hW0⟩ : ∃ W, W = w.alloc (.cells #[.int .u8 1, .string s, .int .i64 n] 54) := ⟨_, rfl⟩
    have bw : Below w.heap.size w W0 := by rw [hW0]; exact (Below.refl _ _).alloc (Nat.le_refl _) _
    have g := heap_alloc_new w (.cells #[.int .u8 1, .string s, .int .i64 n] 54)
    rw [← hW0] at g
    have H := Hid.mk' (wkey_any s W0 (hT.below bw))
    have HX : Hid (∀ w1, Below W0.heap.size W0 w1 → w1.cell? ⟨w.heap.size, 2, none⟩ = some (.int .i64 n) ∧ Below w.heap.size w w1) := fun w1 hb => by
      have c2 : W0.cell? ⟨w.heap.size, 2, none⟩ = some (.int .i64 n) := (cell_of_row _ _ 2 _ _ _ g).trans rfl
      exact ⟨(hb.cell (block_lt_of_cell c2)).trans c2, bw.trans (hb.mono bw.size)⟩
    have HW0 := Hid.mk' hW0
    have HB : Hid (stepB ⟨1, s, n⟩ = (keyB s && decide (n = 0))) := rfl
    generalize stepB ⟨1, s, n⟩ = B at *
    generalize keyB s = Q at *
    clear g bw hW0 hT
    go_enter Tryz.func51, Tryz.ntmps51
    go_wp2_with fail
    rw [← HW0.out]
    refine H.out.mono ?_
    rintro e w1 ⟨rfl, b1⟩
    skip
    obtain ⟨c2, bb⟩ := HX.out _ (b1)
    have BB := Hid.mk' bb
    clear H HX HW0 bb
    cases Q with
    | true =>
      by_cases hn : n = 0
      · have HB2 : Hid (B = true) := by show _ = _; rw [HB.out, decide_eq_true hn]; rfl
        clear HB
        go_wp2
        go_ret
        exact ⟨by rw [HB2.out]; rfl, BB.out⟩
      · have HB2 : Hid (B = false) := by show _ = _; rw [HB.out, decide_eq_false hn]; rfl
        clear HB
        go_wp2
        go_ret
        exact ⟨by rw [HB2.out]; simp [hn], BB.out⟩
    | false =>
      have HB2 : Hid (B = false) := HB.out
      clear HB
      go_wp2
      go_ret
      exact ⟨by rw [HB2.out]; rfl, BB.out⟩
  · by_cases h23 : k = 2 ∨ k = 3
    · have HB : Hid (stepB ⟨k, s, n⟩ = (decide (s.size = 0) && decide (0 ≤ n) && decide (n ≤ 2147483647))) := by
        show _ = _
        unfold stepB
        rw [if_neg h1, if_pos h23]
      generalize stepB ⟨k, s, n⟩ = B at *
      clear hT
      by_cases hz : s.size = 0
      · have e0 : s.toList.isEmpty = true := empty_size hz
        by_cases hn : 0 ≤ n
        · by_cases hm : n ≤ 2147483647
          · have HB2 : Hid (B = true) := by show _ = _; rw [HB.out, decide_eq_true hz, decide_eq_true hn, decide_eq_true hm]; rfl
            clear HB
            rcases h23 with rfl | rfl
            · go_enter Tryz.func51, Tryz.ntmps51
              go_wp2
              go_ret
              exact ⟨by rw [HB2.out]; rfl, (Below.refl _ _).alloc (Nat.le_refl _) _⟩
            · go_enter Tryz.func51, Tryz.ntmps51
              go_wp2
              go_ret
              exact ⟨by rw [HB2.out]; rfl, (Below.refl _ _).alloc (Nat.le_refl _) _⟩
          · have HB2 : Hid (B = false) := by show _ = _; rw [HB.out, decide_eq_true hz, decide_eq_true hn, decide_eq_false hm]; rfl
            clear HB
            rcases h23 with rfl | rfl
            · go_enter Tryz.func51, Tryz.ntmps51
              go_wp2
              go_ret
              exact ⟨by rw [HB2.out]; rfl, (Below.refl _ _).alloc (Nat.le_refl _) _⟩
            · go_enter Tryz.func51, Tryz.ntmps51
              go_wp2
              go_ret
              exact ⟨by rw [HB2.out]; rfl, (Below.refl _ _).alloc (Nat.le_refl _) _⟩
        · have HB2 : Hid (B = false) := by show _ = _; rw [HB.out, decide_eq_true hz, decide_eq_false hn]; rfl
          clear HB
          rcases h23 with rfl | rfl
          · go_enter Tryz.func51, Tryz.ntmps51
            go_wp2
            go_ret
            exact ⟨by rw [HB2.out]; rfl, (Below.refl _ _).alloc (Nat.le_refl _) _⟩
          · go_enter Tryz.func51, Tryz.ntmps51
            go_wp2
            go_ret
            exact ⟨by rw [HB2.out]; rfl, (Below.refl _ _).alloc (Nat.le_refl _) _⟩
      · have e0 : s.toList.isEmpty = false := K.V.not_empty s (by omega)
        have HB2 : Hid (B = false) := by show _ = _; rw [HB.out, decide_eq_false hz]; rfl
        clear HB
        rcases h23 with rfl | rfl
        · go_enter Tryz.func51, Tryz.ntmps51
          go_wp2
          go_ret
          exact ⟨by rw [HB2.out]; rfl, (Below.refl _ _).alloc (Nat.le_refl _) _⟩
        · go_enter Tryz.func51, Tryz.ntmps51
          go_wp2
          go_ret
          exact ⟨by rw [HB2.out]; rfl, (Below.refl _ _).alloc (Nat.le_refl _) _⟩
    · have HB : Hid (stepB ⟨k, s, n⟩ = false) := by
        show _ = _
        unfold stepB
        rw [if_neg h1, if_neg h23]
      generalize stepB ⟨k, s, n⟩ = B at *
      clear hT
      have h2 : ¬ k = 2 := fun h => h23 (.inl h)
      have h3 : ¬ k = 3 := fun h => h23 (.inr h)
      clear h23
      go_enter Tryz.func51, Tryz.ntmps51
      go_wp2
      go_ret
      exact ⟨by rw [HB.out]; rfl, (Below.refl _ _).alloc (Nat.le_refl _) _⟩
theorem all_no {l : List St} {k : Nat} {p : St} (h : l[k]? = some p) (hp : stepB p = false) : l.all stepB = false := by
  cases ha : l.all stepB with
  | false => rfl
  | true =>
    have := List.all_eq_true.1 ha p (List.mem_of_getElem? h)
    rw [hp] at this
    cases this
theorem all_yes {l : List St} (h : ∀ (i : Nat) (p : St), l[i]? = some p → stepB p = true) : l.all stepB = true := by
  rw [List.all_eq_true]
  intro p hp
  obtain ⟨i, hi⟩ := List.getElem?_of_mem hp
  exact h i p hi
/-- The error that check tells. -/
def chkV (l : List St) (a0 a1 : Addr) : Value := if 32 < l.length then .iface 189 (.pointer (some a0)) else if l.all stepB = true then .nilIface else .iface 189 (.pointer (some a1))
set_option maxRecDepth 100000 in
set_option maxHeartbeats 2000000 in
theorem check_l (a : Option Addr) (l : List St) (c : Nat) (w : World) (ha : Sts w a l) (hl : l.length ≤ 140737488355328) (hT : K.V.Tabs w) (a0 a1 a2 : Addr) (hE : Snt w a0 a1 a2) :
    Calls Tryz.prog 42 #[.slice a l.length c] w fun e w' => e = .returned (chkV l a0 a1) ∧ Below w.heap.size w w' := by
  obtain ⟨VV, hVV⟩ : ∃ V, V = chkV l a0 a1 := ⟨_, rfl⟩
  have hv1 : 32 < l.length → VV = .iface 189 (.pointer (some a0)) := fun h => by rw [hVV]; unfold chkV; rw [if_pos h]
  have hv2 : l.length ≤ 32 → l.all stepB = true → VV = .nilIface := fun h h2 => by rw [hVV]; unfold chkV; rw [if_neg (by omega), if_pos h2]
  have hv3 : l.length ≤ 32 → l.all stepB = false → VV = .iface 189 (.pointer (some a1)) := fun h h2 => by rw [hVV]; unfold chkV; rw [if_neg (by omega), if_neg (by rw [h2]; decide)]
  rw [← hVV]
  have HTT := Hid.mk' hT
  have HEE := Hid.mk' hE
  have eg0 := hE.g0
  clear hVV hT hE
  have HA := Hid.mk' (fun wx (h : Below w.heap.size w wx) => ha.below h)
  obtain ⟨n, hn⟩ : ∃ n, n = l.length := ⟨_, rfl⟩
  have HR : Hid ((32 < n → VV = .iface 189 (.pointer (some a0))) ∧ (n ≤ 32 → l.all stepB = true → VV = .nilIface) ∧ (n ≤ 32 → l.all stepB = false → VV = .iface 189 (.pointer (some a1)))) := by
    rw [hn]
    exact ⟨hv1, hv2, hv3⟩
  rw [← hn] at hl ⊢
  have HN := Hid.mk' hn
  clear ha hn hv1 hv2 hv3
  by_cases h32 : 32 < n
  · have h32' : (32 : Int) < (n : Int) := by omega
    have HV : Hid (VV = .iface 189 (.pointer (some a0))) := HR.out.1 h32
    clear HR
    go_enter Tryz.func42, Tryz.ntmps42
    go_wp2
    go_ret
    exact ⟨by rw [HV.out]; rfl, Below.refl _ _⟩
  · have h32' : ¬ (32 : Int) < (n : Int) := by omega
    go_enter Tryz.func42, Tryz.ntmps42
    go_wp2
    go_loopw [11] (fun i wr => ∃ k : Nat, k ≤ n ∧ i = .int .i64 k ∧ Hid (Below w.heap.size w wr) ∧ Hid (∀ (j : Nat) (p : St), j < k → l[j]? = some p → stepB p = true)) (fun i _ => n - (intOf i).toNat)
    case atStart => exact ⟨0, by omega, rfl, Below.refl _ _, fun j p hj => by omega⟩
    case round =>
      obtain ⟨k, hk, rfl, HW, HK⟩ := hrel
      by_cases hkn : k < n
      · have hkn' : (k : Int) < (n : Int) := by omega
        obtain ⟨b1, o1, p, rfl, hp, c0, c1, c2⟩ := (HA.out wr HW.out).at (i := k) (by rw [← HN.out]; omega)
        have HP := Hid.mk' hp
        have ix := fun wx => indexS b1 o1 n c k wx hkn
        clear hp
        obtain ⟨pk, ps, pn⟩ := p
        simp only [] at c0 c1 c2
        obtain ⟨W1, hW1⟩ : ∃ W, W = wr.alloc (.cells #[.int .u8 pk, .string ps, .int .i64 pn] 54) := ⟨_, rfl⟩
        have bw1 : Below w.heap.size w W1 := HW.out.trans (by rw [hW1]; exact ((Below.refl _ _).alloc (Nat.le_refl _) _).mono HW.out.size)
        have HST : Hid (Calls Tryz.prog 51 #[.agg #[.int .u8 pk, .string ps, .int .i64 pn]] W1 fun e w' => e = .returned (.bool (stepB ⟨pk, ps, pn⟩)) ∧ Below W1.heap.size W1 w') := step_any pk ps pn W1 (HTT.out.below bw1)
        rw [hW1] at HST bw1
        clear hW1
        generalize hB : stepB ⟨pk, ps, pn⟩ = B at *
        cases B with
        | true =>
          have HK2 : Hid (∀ (j : Nat) (p : St), j < k + 1 → l[j]? = some p → stepB p = true) := fun j p hj hpj => by
            rcases Nat.lt_or_ge j k with h | h
            · exact HK.out j p h hpj
            · obtain rfl : j = k := by omega
              obtain rfl := Option.some.inj (HP.out.symm.trans hpj)
              exact hB
          clear hB HK HP
          go_wp2_with fail
          refine HST.out.mono ?_
          rintro e w1 ⟨rfl, b1⟩
          have BW : Hid (Below w.heap.size w w1) := bw1.trans (b1.mono bw1.size)
          clear b1 HST
          go_wp2
          go_roundw
          case rel => exact ⟨k + 1, by omega, by go_num, BW, HK2⟩
          case measure => simp [intOf]; omega
        | false =>
          have HV : Hid (VV = .iface 189 (.pointer (some a1))) := HR.out.2.2 (by omega) (all_no HP.out hB)
          clear hB HK HP HR
          go_wp2_with fail
          refine HST.out.mono ?_
          rintro e w1 ⟨rfl, b1⟩
          have BW : Hid (Below w.heap.size w w1) := bw1.trans (b1.mono bw1.size)
          clear b1 HST
          have eg1 := (HEE.out.below BW.out).g1
          go_wp2
          go_ret
          exact ⟨by rw [HV.out]; rfl, BW.out⟩
      · have hkn' : ¬ (k : Int) < (n : Int) := by omega
        have HV : Hid (VV = .nilIface) := HR.out.2.1 (by omega) (all_yes fun i p hi => HK.out i p (by have := (List.getElem?_eq_some_iff.1 hi).1; rw [← HN.out] at this; omega) hi)
        clear HR HK
        go_wp2
        go_ret
        exact ⟨by rw [HV.out]; rfl, HW.out⟩
set_option maxRecDepth 100000 in
set_option maxHeartbeats 2000000 in
theorem right_l (a : Option Addr) (l : List St) (c : Nat) (w : World) (ha : Sts w a l) (hl : l.length ≤ 140737488355328) (hT : K.V.Tabs w) (a0 a1 a2 : Addr) (hE : Snt w a0 a1 a2) :
    Calls Tryz.prog 15 #[.slice a l.length c] w fun e w' => e = .returned (.int .i64 (rightL l)) ∧ Below w.heap.size w w' := by
  have HC := Hid.mk' (check_l a l c w ha hl hT a0 a1 a2 hE)
  have HN : Hid (∀ wx, Below w.heap.size w wx → Calls Tryz.prog 13 #[chkV l a0 a1] wx fun e w' => e = .returned (.int .i64 (rightL l)) ∧ w' = wx) := fun wx hb => by
    have hE2 := hE.below hb
    unfold chkV rightL
    by_cases h : 32 < l.length
    · rw [if_pos h, if_pos h]; exact number_long a0 a1 a2 wx hE2
    · rw [if_neg h, if_neg h]
      by_cases h2 : l.all stepB = true
      · rw [if_pos h2, if_pos h2]; exact number_nil a0 a1 a2 wx hE2
      · rw [if_neg h2, if_neg h2]; exact number_step a0 a1 a2 wx hE2
  generalize chkV l a0 a1 = V at *
  generalize rightL l = R at *
  generalize l.length = n at *
  clear ha hT hE
  go_enter Tryz.func15, Tryz.ntmps15
  go_wp2_with fail
  refine HC.out.mono ?_
  rintro e w1 ⟨rfl, b1⟩
  have HN2 := Hid.mk' (HN.out w1 b1)
  clear HN HC
  go_wp2_with fail
  refine HN2.out.mono ?_
  rintro e _ ⟨rfl, rfl⟩
  go_wp2
  go_ret
  exact ⟨rfl, b1⟩
end Go.Proofs.YthffcdahjcpdfaaGreatDoor

namespace Go.Proofs.YthffcdahjcpdfaaGreatDoor
open Go.RowKit
set_option linter.unusedVariables false
set_option linter.unusedSimpArgs false

theorem wpList_wanted {P : Program} {ops : Array Oper} {rest : List Oper} {o : Oper} {a : Act} {w : World} {Q : Exit → Act → World → Prop} (hw : Region.wanted o (yielded ops a.tmps) = true)
    (h : ∀ K : Act → World → Prop, (∀ a w, wpList P ops Q rest a w → K a w) → o.wp P a w K Q) : wpList P ops Q (o :: rest) a w :=
  wpList_step fun K hK => by rw [if_pos hw]; exact h K hK
theorem wpList_bs1G {ops : Array Oper} {rest : List Oper} {o : Oper} {a : Act} {w : World} {Q : Exit → Act → World → Prop} (hw : Region.wanted o (yielded ops a.tmps) = true) (x : Operand) (ho : o.op = .buildSlice 22 1 #[(0, x)])
    (C : Array Value) (hx : a.eval x = .agg C) (hC : C.size = 3)
    (h : wpList Tryz.prog ops Q rest (a.put o.dst (.slice (some ⟨w.heap.size, 0, none⟩) 1 1)) (w.alloc (.cells C 54))) : wpList Tryz.prog ops Q (o :: rest) a w := by
  obtain ⟨ie, hi, hz, hs, hby⟩ := infoS
  refine wpList_wanted hw fun _ hK => wp_buildSlice 22 54 1 #[(0, x)] ho C ie _ Tryz.underlying22 hi hz (by rw [hs]; decide) (by rw [hs]; decide) ?_ (hK _ _ h)
  rw [hs]
  have := Go.Great.fill_whole (s := 3) (by decide) [.agg C] ((Array.range (1 * 3)).map ((Value.agg zSt.c).cells[· % (Value.agg zSt.c).cells.size]!)) (by intro v hv; simp at hv; subst hv; exact hC) (by simp)
  simp only [List.map_toArray, List.map_cons, List.map_nil, hx]
  simpa [Value.cells] using this
theorem Sts.front {W : World} {a : Option Addr} {L M : List St} (h : Sts W a (L ++ M)) : Sts W a L := by
  have := h.take L.length
  simpa using this
set_option maxRecDepth 100000 in
set_option maxHeartbeats 2000000 in
theorem kept_any (g : Nat) (a : Option Addr) (L : List St) (c cap : Nat) (w : World) (ho : Sts w (some ⟨g, 0, none⟩) (L ++ [mSt])) (hl : Sts w a L) (hc : L.length + 1 ≤ c) (hn : L.length ≤ 4398046510976) :
    Calls Tryz.prog 11 #[.slice (some ⟨g, 0, none⟩) L.length c, .slice a L.length cap] w fun e w' => e = .returned (.bool true) ∧ Below w.heap.size w w' := by
  have H := Hid.mk' (same_any (some ⟨g, 0, none⟩) a L L c cap w ho.front hl (by omega) (by omega))
  rw [decide_eq_true (cL_zero.2 rfl)] at H
  have HO := Hid.mk' (fun w' (h : Below w.heap.size w w') => ho.below h)
  have he : ∀ wx, (Op.equalIn 10000 54 (.agg #[.int .u8 77, .string ⟨#[]⟩, .int .i64 0]) (.agg #[.int .u8 77, .string ⟨#[]⟩, .int .i64 0])).run Tryz.prog wx = .ok true wx := fun wx => by
    have := eqSt mSt mSt wx
    rw [decide_eq_true (cSt_zero.2 rfl)] at this
    exact this
  have HM : Hid (∀ w', Below w.heap.size w w' → w'.cell? ⟨g, 3 * L.length, none⟩ = some (.int .u8 77) ∧ w'.cell? ⟨g, 3 * L.length + 1, none⟩ = some (.string ⟨#[]⟩) ∧ w'.cell? ⟨g, 3 * L.length + 2, none⟩ = some (.int .i64 0)) := fun w' h => by
    obtain ⟨b, off, p, e, hp, c0, c1, c2⟩ := (HO.out w' h).at (i := L.length) (by simp)
    cases e
    have : p = mSt := by simpa using hp.symm
    subst this
    rw [Nat.zero_add] at c0 c1 c2
    exact ⟨c0, c1, c2⟩
  have ix := fun wx => indexS g 0 (L.length + 1) c L.length wx (by omega)
  rw [Nat.zero_add] at ix
  generalize L.length = n at *
  have hc' : ((n : Int) + 1) ≤ (c : Int) := by omega
  clear ho hl HO
  go_enter Tryz.func11, Tryz.ntmps11
  go_wp2_with fail
  refine H.out.mono ?_
  rintro e w1 ⟨rfl, b1⟩
  obtain ⟨c0, c1, c2⟩ := HM.out w1 b1
  clear H HM
  go_wp2
  go_ret
  exact ⟨rfl, b1⟩
set_option maxRecDepth 100000 in
set_option maxHeartbeats 2000000 in
theorem clone_any (a : Addr) (L : List St) (n cap : Nat) (w : World) (hl : Sts w (some a) L) (hn : L.length = n) (hb : n ≤ 4398046510976) :
    Calls Tryz.prog 16 #[.slice (some a) n cap] w fun e w' => ∃ v, e = .returned v ∧ OwnS w' w.heap.size v L ∧ Below w.heap.size w w' := by
  have hnil : ∀ W, (binOp .eql 22 (.slice (some a) n cap) (.slice none 0 0)).run Tryz.prog W = .ok (.bool false) W := fun W => Lib.run_eql_slice_some_nil W _ _ _ Tryz.underlying22
  have O0 : Hid (OwnS (w.alloc (.cells #[] 54)) w.heap.size (.slice (some ⟨w.heap.size, 0, none⟩) 0 0) []) := ⟨rfl, .inr ⟨w.heap.size, 0, #[], rfl, Nat.le_refl _, heap_alloc_new _ _, by simp, by simp [maxLen], rfl, rfl⟩⟩
  have be0 : Below w.heap.size w (w.alloc (.cells #[] 54)) := (Below.refl _ _).alloc (Nat.le_refl _) _
  have B0 : Hid (Sts (w.alloc (.cells #[] 54)) (some a) L) := hl.below be0
  have S0 : Hid (([] : List St).length + L.length ≤ 4398046510976 + 1) := by show _ ≤ _; simp; omega
  have Z0 : Hid (w.heap.size ≤ (w.alloc (.cells #[] 54)).heap.size) := by show _ ≤ _; simp
  have HN := Hid.mk' hn
  clear hl hn
  go_enter Tryz.func16, Tryz.ntmps16
  go_wp2_with (first | (at_builtin; refine wpList_appS rfl (.tmp 5) (.tmp 6) rfl w.heap.size (.slice (some ⟨w.heap.size, 0, none⟩) 0 0) [] rfl O0.out (some a) n cap L rfl HN.out B0.out (fun h => by cases h) S0.out Z0.out ?_) | fail)
  intro v w1 own1 gr1
  have own1' : OwnS w1 w.heap.size v L := by simpa using own1
  have be1 : Below w.heap.size w w1 := be0.grown gr1 Z0.out (fun k hk => (World.ownsRow.lt O0.out k hk).1)
  have OW := Hid.mk' own1'
  obtain ⟨va, vc, rfl, _, _⟩ := own1'.slice
  clear own1 own1' gr1 O0 B0 S0 Z0
  go_wp2
  go_ret
  exact ⟨_, rfl, OW.out, be1⟩
set_option maxRecDepth 100000 in
set_option maxHeartbeats 2000000 in
theorem up_any (a : Addr) (L : List St) (cap : Nat) (w : World) (hl : Sts w (some a) L) (hc : L.length ≤ cap) (hn : L.length ≤ 4398046510976) :
    Calls Tryz.prog 8 #[.slice (some a) L.length cap] w fun e w' => ∃ v, e = .returned v ∧ OwnS w' w.heap.size v (L.take (L.length - 1)) ∧ Below w.heap.size w w' := by
  by_cases h0 : L.length = 0
  · have hL : L = [] := List.eq_nil_of_length_eq_zero h0
    subst hL
    have N0 := Hid.mk' (OwnS.nil w w.heap.size)
    simp only [List.length_nil]
    clear hl
    go_enter Tryz.func8, Tryz.ntmps8
    go_wp2
    go_ret
    exact ⟨_, rfl, N0.out, Below.refl _ _⟩
  · have hlen : (L.take (L.length - 1)).length = L.length - 1 := by rw [List.length_take]; omega
    have HC := Hid.mk' (clone_any a (L.take (L.length - 1)) (L.length - 1) cap w (hl.take _) hlen (by omega))
    generalize L.take (L.length - 1) = M at *
    generalize L.length = n at *
    have hn0 : ¬ (n : Int) = 0 := by omega
    have e1 : (n : Int) - 1 = ((n - 1 : Nat) : Int) := by omega
    have hq : n - 1 ≤ cap := by omega
    have hq2 : n - 1 ≤ 4398046510976 := by omega
    generalize n - 1 = q at *
    clear hl h0 hlen
    go_enter Tryz.func8, Tryz.ntmps8
    go_wp2_with fail
    refine HC.out.mono ?_
    rintro e w1 ⟨v, rfl, own1, be1⟩
    have OW := Hid.mk' own1
    obtain ⟨va, vc, rfl, _, _⟩ := own1.slice
    clear own1
    go_wp2
    go_ret
    exact ⟨_, rfl, OW.out, be1⟩
end Go.Proofs.YthffcdahjcpdfaaGreatDoor

namespace Go.Proofs.YthffcdahjcpdfaaGreatDoor
open Go.RowKit
set_option linter.unusedVariables false
set_option linter.unusedSimpArgs false

/-- A digit. -/
def dgC (c : Nat) : Bool := decide (48 ≤ c) && decide (c ≤ 57)
/-- The decimal that stands at a place: the number, the place behind it, and that it is one; else the place of its fault. -/
def numP (s : ByteArray) (from0 : Nat) : Nat → Nat → Nat → Nat × Nat × Bool
  | 0, k, n => if k = from0 then (0, k, false) else (n, k, true)
  | f + 1, k, n => if dgC (K.V.by8 s k) = true then (if 2147483647 < n * 10 + (K.V.by8 s k - 48) ∨ (from0 < k ∧ K.V.by8 s from0 = 48) then (0, k, false) else numP s from0 f (k + 1) (n * 10 + (K.V.by8 s k - 48))) else (if k = from0 then (0, k, false) else (n, k, true))
/-- An error, or none. -/
def erV (a : Addr) (ok : Bool) : Value := if ok = true then .nilIface else .iface 189 (.pointer (some a))
theorem numP_end {s : ByteArray} {from0 f k n : Nat} (h : f = 0 ∨ dgC (K.V.by8 s k) = false) : numP s from0 f k n = if k = from0 then (0, k, false) else (n, k, true) := by
  cases f with
  | zero => rfl
  | succ f =>
    rcases h with h | h
    · omega
    · unfold numP
      rw [if_neg (by rw [h]; decide)]
theorem numP_bad {s : ByteArray} {from0 f k n : Nat} (h : dgC (K.V.by8 s k) = true) (h2 : 2147483647 < n * 10 + (K.V.by8 s k - 48) ∨ (from0 < k ∧ K.V.by8 s from0 = 48)) : numP s from0 (f + 1) k n = (0, k, false) := by
  unfold numP
  rw [if_pos h, if_pos h2]
theorem numP_go {s : ByteArray} {from0 f k n : Nat} (h : dgC (K.V.by8 s k) = true) (h2 : ¬ (2147483647 < n * 10 + (K.V.by8 s k - 48) ∨ (from0 < k ∧ K.V.by8 s from0 = 48))) : numP s from0 (f + 1) k n = numP s from0 f (k + 1) (n * 10 + (K.V.by8 s k - 48)) := by
  rw [numP]
  rw [if_pos h, if_neg h2]
theorem dg_yes {c : Nat} (h : dgC c = true) : (48 : Int) ≤ (c : Int) ∧ (c : Int) ≤ 57 := by unfold dgC at h; simp at h; omega
theorem dg_no {c : Nat} (h : dgC c = false) (h1 : (48 : Int) ≤ (c : Int)) : ¬ (c : Int) ≤ 57 := by unfold dgC at h; simp at h; omega
set_option maxRecDepth 100000 in
set_option maxHeartbeats 1000000 in
theorem rnum_any (s : ByteArray) (k0 : Nat) (w : World) (hk0 : k0 ≤ s.size) (hs : s.size ≤ 5000) (a0 a1 a2 : Addr) (hE : Snt w a0 a1 a2) :
    Calls Tryz.prog 39 #[.string s, .int .i64 (k0 : Int)] w fun e w' => e = .returned (.tuple #[.int .i64 ((numP s k0 (s.size - k0) k0 0).1 : Int), .int .i64 ((numP s k0 (s.size - k0) k0 0).2.1 : Int), erV a2 (numP s k0 (s.size - k0) k0 0).2.2]) ∧ Below w.heap.size w w' := by
  obtain ⟨R, hR⟩ : ∃ R, R = numP s k0 (s.size - k0) k0 0 := ⟨_, rfl⟩
  rw [← hR]
  have HR := Hid.mk' hR
  have HX : Hid (∀ k, k < s.size → ∀ wx, (Instr.index 9 (.string s) (.int .i64 (k : Int))).run Tryz.prog wx = .ok (.int .u8 (K.V.by8 s k : Int)) wx) := fun k h wx => K.V.index_str s k wx h
  have HB := Hid.mk' (K.V.by8_lt s)
  have HG : Hid (∀ wx, Below w.heap.size w wx → wx.cell? ⟨1, 0, none⟩ = some (.iface 189 (.pointer (some a2)))) := fun wx h => (hE.below h).g2
  clear hR hE
  go_enter Tryz.func39, Tryz.ntmps39
  go_wp2
  go_loopw [1, 7] (fun i v wr => ∃ k n : Nat, k ≤ s.size ∧ k0 ≤ k ∧ i = .int .i64 k ∧ v = .int .i64 n ∧ n ≤ 2147483647 ∧ Hid (Below w.heap.size w wr) ∧ Hid (R = numP s k0 (s.size - k) k n)) (fun i _ _ => s.size - (intOf i).toNat)
  case atStart => exact ⟨k0, 0, hk0, by omega, rfl, rfl, by omega, Below.refl _ _, HR⟩
  case round =>
    obtain ⟨k, n, hk, hkk, rfl, rfl, hn, HW, HN⟩ := hrel
    have hg := HG.out wr HW.out
    clear HR
    by_cases hks : k < s.size
    · have hks' : (k : Int) < (s.size : Int) := by omega
      have ix := HX.out k hks
      have hb := HB.out k
      have hf : s.size - k = (s.size - (k + 1)) + 1 := by omega
      have HN2 : Hid (R = numP s k0 (s.size - (k + 1) + 1) k n) := by show _ = _; rw [HN.out, hf]
      cases hd : dgC (K.V.by8 s k) with
      | true =>
        obtain ⟨d1, d2⟩ := dg_yes hd
        obtain ⟨d, hdd⟩ : ∃ d, K.V.by8 s k = d + 48 := ⟨K.V.by8 s k - 48, by omega⟩
        have hd9 : d ≤ 9 := by omega
        have hval : n * 10 + (K.V.by8 s k - 48) = n * 10 + d := by omega
        have HBAD : Hid (2147483647 < n * 10 + d ∨ (k0 < k ∧ K.V.by8 s k0 = 48) → R = (0, k, false)) := fun h => by rw [HN2.out]; exact numP_bad hd (by rw [hval]; exact h)
        have HGO : Hid (¬ (2147483647 < n * 10 + d ∨ (k0 < k ∧ K.V.by8 s k0 = 48)) → R = numP s k0 (s.size - (k + 1)) (k + 1) (n * 10 + d)) := fun h => by rw [HN2.out, numP_go hd (by rw [hval]; exact h), hval]
        rw [hdd] at ix d1 d2 hb
        have e1 : ((d + 48 : Nat) : Int) - 48 = (d : Int) := by omega
        have e2 : (d : Int) % 256 = (d : Int) := by omega
        clear hd HN HN2 hval hdd hf
        by_cases hov : 2147483647 < n * 10 + d
        · have hov' : (2147483647 : Int) < (n : Int) * 10 + (d : Int) := by omega
          have HRR : Hid (R = (0, k, false)) := HBAD.out (.inl hov)
          clear HBAD HGO
          go_wp2
          go_quiet (fail)
          go_wp2
          go_ret3
          exact ⟨by rw [HRR.out]; rfl, below_drewN HW.out _⟩
        · have hov' : ¬ (2147483647 : Int) < (n : Int) * 10 + (d : Int) := by omega
          by_cases hkl : k0 < k
          · have hkl' : (k0 : Int) < (k : Int) := by omega
            have ix0 := HX.out k0 (by omega)
            by_cases h48 : K.V.by8 s k0 = 48
            · have HRR : Hid (R = (0, k, false)) := HBAD.out (.inr ⟨hkl, h48⟩)
              rw [h48] at ix0
              clear HBAD HGO h48
              go_wp2
              go_quiet (fail)
              go_wp2
              go_ret3
              exact ⟨by rw [HRR.out]; rfl, below_drewN HW.out _⟩
            · have HN3 : Hid (R = numP s k0 (s.size - (k + 1)) (k + 1) (n * 10 + d)) := HGO.out (fun h => h.elim (fun h => hov h) (fun h => h48 h.2))
              have h48' : ¬ (K.V.by8 s k0 : Int) = 48 := by omega
              clear HBAD HGO h48
              generalize K.V.by8 s k0 = c0 at *
              go_wp2
              go_roundw
              case rel => exact ⟨k + 1, n * 10 + d, by omega, by omega, by go_num, by go_num, by omega, HW, HN3⟩
              case measure => simp [intOf]; omega
          · have hkl' : ¬ (k0 : Int) < (k : Int) := by omega
            have HN3 : Hid (R = numP s k0 (s.size - (k + 1)) (k + 1) (n * 10 + d)) := HGO.out (fun h => h.elim (fun h => hov h) (fun h => hkl h.1))
            clear HBAD HGO
            go_wp2
            go_roundw
            case rel => exact ⟨k + 1, n * 10 + d, by omega, by omega, by go_num, by go_num, by omega, HW, HN3⟩
            case measure => simp [intOf]; omega
      | false =>
        have HN3 : Hid (R = if k = k0 then (0, k, false) else (n, k, true)) := by show _ = _; rw [HN2.out]; exact numP_end (.inr hd)
        have hno := @dg_no _ hd
        clear hd HN HN2 hf
        generalize K.V.by8 s k = c at *
        by_cases h48 : (48 : Int) ≤ (c : Int)
        · have h57 := hno h48
          by_cases hq : k = k0
          · have hq' : (k : Int) = (k0 : Int) := by omega
            have HRR : Hid (R = (0, k, false)) := by show _ = _; rw [HN3.out, if_pos hq]
            subst hq
            clear HN3
            go_wp2
            go_quiet (fail)
            go_wp2
            go_ret3
            exact ⟨by rw [HRR.out]; rfl, below_drewN HW.out _⟩
          · have hq' : ¬ (k : Int) = (k0 : Int) := by omega
            have HRR : Hid (R = (n, k, true)) := by show _ = _; rw [HN3.out, if_neg hq]
            clear HN3
            go_wp2
            go_ret3
            exact ⟨by rw [HRR.out]; rfl, HW.out⟩
        · clear hno
          by_cases hq : k = k0
          · have hq' : (k : Int) = (k0 : Int) := by omega
            have HRR : Hid (R = (0, k, false)) := by show _ = _; rw [HN3.out, if_pos hq]
            subst hq
            clear HN3
            go_wp2
            go_quiet (fail)
            go_wp2
            go_ret3
            exact ⟨by rw [HRR.out]; rfl, below_drewN HW.out _⟩
          · have hq' : ¬ (k : Int) = (k0 : Int) := by omega
            have HRR : Hid (R = (n, k, true)) := by show _ = _; rw [HN3.out, if_neg hq]
            clear HN3
            go_wp2
            go_ret3
            exact ⟨by rw [HRR.out]; rfl, HW.out⟩
    · have hks' : ¬ (k : Int) < (s.size : Int) := by omega
      have HN3 : Hid (R = if k = k0 then (0, k, false) else (n, k, true)) := by show _ = _; rw [HN.out]; exact numP_end (.inl (by omega))
      clear HN
      by_cases hq : k = k0
      · have hq' : (k : Int) = (k0 : Int) := by omega
        have HRR : Hid (R = (0, k, false)) := by show _ = _; rw [HN3.out, if_pos hq]
        subst hq
        clear HN3
        go_wp2
        go_quiet (fail)
        go_wp2
        go_ret3
        exact ⟨by rw [HRR.out]; rfl, below_drewN HW.out _⟩
      · have hq' : ¬ (k : Int) = (k0 : Int) := by omega
        have HRR : Hid (R = (n, k, true)) := by show _ = _; rw [HN3.out, if_neg hq]
        clear HN3
        go_wp2
        go_ret3
        exact ⟨by rw [HRR.out]; rfl, HW.out⟩
end Go.Proofs.YthffcdahjcpdfaaGreatDoor

