import Derived.Test.YtldlljobofnmmaaGreatDoorP3
import Derived.Test.YtldlljobofnmmaaGreatDoorP0
import Derived.Great.BuildSlice
set_option maxRecDepth 100000
set_option maxHeartbeats 4000000
namespace Go.Proofs.YtldlljobofnmmaaGreatDoor
open Go.RowKit
set_option linter.unusedVariables false
set_option linter.unusedSimpArgs false
theorem mem_take_succ {α : Type} {L : List α} {i : Nat} {x y : α} (h : L[i]? = some x) : y ∈ L.take (i + 1) ↔ y ∈ L.take i ∨ y = x := by
  rw [List.take_add_one, h]
  simp
theorem saw_any {w : World} {L : List IdK} (ok : ∀ x ∈ L, x.ok) (hn : L.length ≤ 9000000000000) {a : Option Addr} {c : Nat} (ha : RI.At w a L) {y : IdK} (hy : y.ok) :
    Calls Tryz.prog 23 #[.slice a L.length c, y.v] w fun e w' => e = .returned (.bool (decide (y ∈ L))) ∧ Below w.heap.size w w' := by
  obtain ⟨n, hnn⟩ : ∃ n, L.length = n := ⟨_, rfl⟩
  obtain ⟨w1, E1, n1, b1⟩ := box_id w y
  have H1 := hidMk E1
  have HL := hidMk (And.intro (ha.below b1) (And.intro ok (And.intro hnn (And.intro n1 b1))))
  rw [hnn] at hn ⊢
  obtain ⟨xb, hxb⟩ : ∃ xb, w.heap.size = xb := ⟨_, rfl⟩
  have HXB := hidMk hxb
  rw [hxb] at H1
  clear ha ok hnn E1 n1 b1 hxb
  go_enter Tryz.func23, Tryz.ntmps23
  go_wp2_with (first
    | (refine wpList_run rfl (exec_boxE (t := 59) (v := y.v) (u := .pointer (some ⟨xb, 0, none⟩)) (w2 := w1) rfl rfl H1.out) ?_)
    | fail)
  clear H1
  go_loopw [5] (fun v5 wr => ∃ i : Nat, v5 = .int .i64 (i : Int) ∧ i ≤ n ∧ Hid (Below w1.heap.size w1 wr ∧ ¬ y ∈ L.take i)) (fun v5 wr => n - (match v5 with | .int _ i => i.toNat | _ => 0))
  case atStart => exact ⟨0, rfl, Nat.zero_le _, Below.refl _ _, by simp⟩
  case round =>
    obtain ⟨i, rfl, hin, HI⟩ := hrel
    by_cases hi : i < n
    · obtain ⟨ha, ok, hnn, n1, b1⟩ := HL.out
      obtain ⟨x, hxi⟩ : ∃ x, L[i]? = some x := ⟨_, List.getElem?_eq_getElem (by omega)⟩
      have hx : x.ok := ok x (List.mem_of_getElem? hxi)
      obtain ⟨g, o, rfl, lg, hr⟩ : ∃ g o, a = some ⟨g, o, none⟩ ∧ g < w1.heap.size ∧ w1.rangeAt g (o + 33 * i) x.c := by
        rcases ha with h | ⟨g, o, e, h1, h2⟩
        · rw [h] at hxi; cases hxi
        · exact ⟨g, o, e, h1, h2 i x hxi⟩
      have bd : Below w1.heap.size w1 wr.drew := HI.out.1.drew
      have L1 : Hid ((Instr.loadAt 59 (.pointer (some ⟨g, o + 33 * i, none⟩))).run Tryz.prog wr.drew = .ok x.v wr.drew) := RowT.ld RI_is hx (rangeAt_keep hr (bd.block _ lg))
      have L2 : Hid ((Instr.loadAt 59 (.pointer (some ⟨xb, 0, none⟩))).run Tryz.prog wr.drew = .ok y.v wr.drew) := load_id hy ((bd.block xb (by have := (Array.getElem?_eq_some_iff.1 n1).1; rw [HXB.out] at this; exact this)).trans (by rw [← HXB.out]; exact n1))
      have HM := hidMk (And.intro bd (And.intro HI.out.2 (And.intro hxi (And.intro b1 hnn))))
      have h63 : n ≤ 9223372036854775807 := by omega
      clear hr lg ha ok hnn n1 b1 hxi bd HI
      go_upto_region 4 with fail
      refine saw4 (g := g) (o := o) (n := n) (c := c) (i := i) (xb := xb) (x := x) (y := y) _ wr _ rfl rfl rfl rfl hx hy hi h63 (fun W e => by rw [e]; exact L1.out) (fun W e => by rw [e]; exact L2.out) ?_
      intro a' w2 hf ha
      subst ha
      subst hf
      simp only [Act.put, List.setIfInBounds_toArray, List.set_cons_zero, List.set_cons_succ]
      clear L1 L2
      by_cases hxy : x = y
      · have HXY := hidMk hxy
        rw [show decide (x = y) = true from decide_eq_true hxy]
        clear hxy
        go_wp2
        go_ret
        obtain ⟨bd, h2, hxi, b1, hnn⟩ := HM.out
        refine ⟨?_, b1.trans (bd.mono b1.size)⟩
        rw [decide_eq_true (by rw [← HXY.out]; exact List.mem_of_getElem? hxi)]
        rfl
      · have HXY := hidMk hxy
        rw [show decide (x = y) = false from decide_eq_false hxy]
        clear hxy
        go_wp2
        rw [show ((i : Int) + 1) = ((i + 1 : Nat) : Int) by omega]
        refine ⟨⟨i + 1, rfl, hi, HM.out.1, ?_⟩, ?_⟩
        · rw [mem_take_succ HM.out.2.2.1]
          rintro (h | h)
          · exact HM.out.2.1 h
          · exact HXY.out h.symm
        · show n - ((i + 1 : Nat) : Int).toNat < n - (i : Int).toNat
          omega
    · obtain rfl : i = n := by omega
      go_wp2
      go_ret
      obtain ⟨ha, ok, hnn, n1, b1⟩ := HL.out
      refine ⟨?_, b1.trans (HI.out.1.mono b1.size)⟩
      have := HI.out.2
      rw [List.take_of_length_le (by omega)] at this
      rw [decide_eq_false this]
      rfl
structure SlV where
  a : Option Addr
  n : Nat
  c : Nat
def SlV.v (x : SlV) : Value := .slice x.a x.n x.c
def RT : RowT (PlK × SlV) := ⟨fun x => x.1.c ++ [x.2.v], fun x => x.1.ok, 68, 120, 174, 92, (zPl, ⟨none, 0, 0⟩)⟩
theorem RT_is : RT.Is := ⟨zPl_ok, fun x h => by show (x.1.c ++ [x.2.v]).length = 68; rw [List.length_append, PlK.len h]; rfl, fun x v hv => by
  rcases List.mem_append.1 hv with h | h
  · exact x.1.one v h
  · rw [List.mem_singleton.1 h]; rfl, Tryz.underlying92, by kernel_rfl, ⟨_, Tryz.underlying174, rfl⟩, by decide, by decide⟩
theorem rt_pl {w : World} {b o : Nat} {x : PlK × SlV} (hx : x.1.ok) (h : w.rangeAt b o (RT.c x)) : (Instr.loadAt 68 (.pointer (some ⟨b, o + 0, none⟩))).run Tryz.prog w = .ok x.1.v w :=
  ld_pl hx (fun j v hv => h j v (by
    show (x.1.c ++ [x.2.v])[j]? = _
    rw [List.getElem?_append_left (List.getElem?_eq_some_iff.1 hv).1]
    exact hv))
theorem rt_cell {w : World} {b o : Nat} {x : PlK × SlV} (hx : x.1.ok) (h : w.rangeAt b o (RT.c x)) : w.cell? ⟨b, o + 67, none⟩ = some x.2.v := h 67 _ (by
  show (x.1.c ++ [x.2.v])[67]? = _
  rw [List.getElem?_append_right (by rw [PlK.len hx]; omega), PlK.len hx]
  rfl)
theorem rt_en {w : World} {b o : Nat} {x : PlK × SlV} (hx : x.1.ok) (h : w.rangeAt b o (RT.c x)) : (Instr.loadAt 71 (.pointer (some ⟨b, o + 67, none⟩))).run Tryz.prog w = .ok x.2.v w := by
  have hc := rt_cell hx h
  unfold SlV.v at *
  go_simp
structure RfS (w : World) (d : Nat) (a : Option Addr) (c : Nat) (S : List (PlK × SlV)) (pv : SlV) : Prop where
  cell : w.heap[d]? = some (.cells #[.slice a S.length c, pv.v] 95 (0, 0))
  sl : RT.At w a S
  ok : ∀ x ∈ S, x.1.ok
theorem RfS.below {w w' : World} {d : Nat} {a : Option Addr} {c : Nat} {S : List (PlK × SlV)} {pv : SlV} (h : RfS w d a c S pv) (b : Below w.heap.size w w') : RfS w' d a c S pv := ⟨(b.block _ (Array.getElem?_eq_some_iff.1 h.cell).1).trans h.cell, h.sl.below b, h.ok⟩
theorem RfS.lds {w : World} {d : Nat} {a : Option Addr} {c : Nat} {S : List (PlK × SlV)} {pv : SlV} (h : RfS w d a c S pv) : (Instr.loadAt 92 (.pointer (some ⟨d, 0 + 0, none⟩))).run Tryz.prog w = .ok (.slice a S.length c) w := by
  have hc : w.cell? ⟨d, 0, none⟩ = some (.slice a S.length c) := (cell_of_row w d 0 _ _ _ h.cell).trans rfl
  go_simp
def fndI (S : List (PlK × SlV)) (p : PlK) : Int := match S.findIdx? (fun x => decide (x.1 = p)) with | some i => (i : Int) | none => -1
theorem fnd_none {S : List (PlK × SlV)} {p : PlK} (h : ∀ x ∈ S, x.1 ≠ p) : fndI S p = -1 := by
  unfold fndI
  rw [List.findIdx?_eq_none_iff.2 (fun x hx => by simpa using h x hx)]
theorem fnd_at {S : List (PlK × SlV)} {p : PlK} {i : Nat} {x : PlK × SlV} (hx : S[i]? = some x) (he : x.1 = p) (h : ∀ y ∈ S.take i, y.1 ≠ p) : fndI S p = i := by
  have hi := (List.getElem?_eq_some_iff.1 hx).1
  have : S.findIdx? (fun x => decide (x.1 = p)) = some i := by
    rw [List.findIdx?_eq_some_iff_getElem]
    refine ⟨hi, by rw [(List.getElem?_eq_some_iff.1 hx).2]; simpa using he, fun j hj => ?_⟩
    have := h S[j] (List.mem_take_iff_getElem.2 ⟨j, by omega, rfl⟩)
    simpa using this
  unfold fndI
  rw [this]
theorem find_any {w : World} {d : Nat} {a : Option Addr} {c : Nat} {S : List (PlK × SlV)} {pv : SlV} (h : RfS w d a c S pv) (hn : S.length ≤ 9000000000000) {p : PlK} (hp : p.ok) :
    Calls Tryz.prog 80 #[.pointer (some ⟨d, 0, none⟩), p.v] w fun e w' => e = .returned (.int .i64 (fndI S p)) ∧ Below w.heap.size w w' := by
  obtain ⟨n, hnn⟩ : ∃ n, S.length = n := ⟨_, rfl⟩
  obtain ⟨w1, E1, n1, b1⟩ := box_pl w p
  have H1 := hidMk E1
  have HL := hidMk (And.intro (h.below b1) (And.intro hnn (And.intro n1 b1)))
  rw [hnn] at hn
  obtain ⟨xb, hxb⟩ : ∃ xb, w.heap.size = xb := ⟨_, rfl⟩
  have HXB := hidMk hxb
  rw [hxb] at H1
  clear h hnn E1 n1 b1 hxb
  go_enter Tryz.func80, Tryz.ntmps80
  go_wp2_with (first
    | (refine wpList_run rfl (exec_boxE (t := 68) (v := p.v) (u := .pointer (some ⟨xb, 0, none⟩)) (w2 := w1) rfl rfl H1.out) ?_)
    | fail)
  clear H1
  go_loopw [5] (fun v5 wr => ∃ i : Nat, v5 = .int .i64 (i : Int) ∧ i ≤ n ∧ Hid (Below w1.heap.size w1 wr ∧ ∀ y ∈ S.take i, y.1 ≠ p)) (fun v5 wr => n - (match v5 with | .int _ i => i.toNat | _ => 0))
  case atStart => exact ⟨0, rfl, Nat.zero_le _, Below.refl _ _, by simp⟩
  case round =>
    obtain ⟨i, rfl, hin, HI⟩ := hrel
    have c0 : wr.cell? ⟨d, 0, none⟩ = some (.slice a n c) := by
      have hh := HL.out.1.below HI.out.1
      have := (cell_of_row wr d 0 _ _ _ hh.cell)
      rw [HL.out.2.1] at this
      exact this.trans rfl
    by_cases hi : i < n
    · obtain ⟨hs, hnn, n1, b1⟩ := HL.out
      obtain ⟨x, hxi⟩ : ∃ x, S[i]? = some x := ⟨_, List.getElem?_eq_getElem (by omega)⟩
      have hx : x.1.ok := hs.ok x (List.mem_of_getElem? hxi)
      obtain ⟨g, o, rfl, lg, hr⟩ : ∃ g o, a = some ⟨g, o, none⟩ ∧ g < w1.heap.size ∧ w1.rangeAt g (o + 68 * i) (RT.c x) := by
        rcases hs.sl with h | ⟨g, o, e, h1, h2⟩
        · rw [h] at hxi; cases hxi
        · exact ⟨g, o, e, h1, h2 i x hxi⟩
      have bd : Below w1.heap.size w1 wr.drew := HI.out.1.drew
      have L1 : Hid ((Instr.loadAt 92 (.pointer (some ⟨d, 0 + 0, none⟩))).run Tryz.prog wr.drew = .ok (.slice (some ⟨g, o, none⟩) n c) wr.drew) := by
        have := (hs.below bd).lds
        rw [hnn] at this
        exact this
      have L2 : Hid ((Instr.loadAt 68 (.pointer (some ⟨g, o + 68 * i + 0, none⟩))).run Tryz.prog wr.drew = .ok x.1.v wr.drew) := rt_pl hx (rangeAt_keep hr (bd.block _ lg))
      have L3 : Hid ((Instr.loadAt 68 (.pointer (some ⟨xb, 0, none⟩))).run Tryz.prog wr.drew = .ok p.v wr.drew) := ld_pl hp (rng_cells ((bd.block xb (by have := (Array.getElem?_eq_some_iff.1 n1).1; rw [HXB.out] at this; exact this)).trans (by rw [← HXB.out]; exact n1)))
      have HM := hidMk (And.intro bd (And.intro HI.out.2 (And.intro hxi (And.intro b1 hnn))))
      have h63 : n ≤ 9223372036854775807 := by omega
      clear hr lg hs hnn n1 b1 hxi bd HI
      go_upto_region 4 with fail
      clear c0
      refine fnd4 (d := d) (g := g) (o := o) (n := n) (c := c) (i := i) (pb := xb) (x := x.1) (p := p) _ wr _ rfl rfl rfl rfl hx hp hi h63 (fun W e => by rw [e]; exact L1.out) (fun W e => by rw [e]; exact L2.out) (fun W e => by rw [e]; exact L3.out) ?_
      intro a' w2 hf ha
      subst ha
      subst hf
      simp only [Act.put, List.setIfInBounds_toArray, List.set_cons_zero, List.set_cons_succ]
      clear L1 L2 L3
      by_cases hxy : x.1 = p
      · have HXY := hidMk hxy
        rw [show decide (x.1 = p) = true from decide_eq_true hxy]
        clear hxy
        go_wp2
        go_ret
        obtain ⟨bd, h2, hxi, b1, hnn⟩ := HM.out
        refine ⟨?_, b1.trans (bd.mono b1.size)⟩
        rw [fnd_at hxi HXY.out h2]
        rfl
      · have HXY := hidMk hxy
        rw [show decide (x.1 = p) = false from decide_eq_false hxy]
        clear hxy
        go_wp2
        rw [show ((i : Int) + 1) = ((i + 1 : Nat) : Int) by omega]
        refine ⟨⟨i + 1, rfl, hi, HM.out.1, fun y hy => ?_⟩, ?_⟩
        · rw [mem_take_succ HM.out.2.2.1] at hy
          rcases hy with h | h
          · exact HM.out.2.1 y h
          · rw [h]; exact HXY.out
        · show n - ((i + 1 : Nat) : Int).toNat < n - (i : Int).toNat
          omega
    · obtain rfl : i = n := by omega
      go_wp2
      go_ret
      obtain ⟨hs, hnn, n1, b1⟩ := HL.out
      refine ⟨?_, b1.trans (HI.out.1.mono b1.size)⟩
      have h2 := HI.out.2
      rw [List.take_of_length_le (by omega)] at h2
      rw [fnd_none h2]
      rfl
theorem dup_en {w : World} {base : Nat} {lv : Value} {L : List EnV} (hL : RN.Lo w base lv L) (ok : ∀ x ∈ L, x.ok) (hn : L.length ≤ 2500000000000) :
    ∃ e0 w1 ea ec w2, (Instr.buildSlice 71 0 #[]).run Tryz.prog w = .ok e0 w1 ∧ Below w.heap.size w w1 ∧ (Builtin.append_ #[71, 71] 71 #[e0, lv]).run Tryz.prog w1 = .ok (.slice ea L.length ec) w2 ∧ RN.Own w2 w.heap.size (.slice ea L.length ec) L ∧ Below w.heap.size w w2 := by
  have b1 : Below w.heap.size w (w.alloc (.cells #[] 85)) := (Below.refl _ _).alloc (Nat.le_refl _) _
  have o1 : RN.Own (w.alloc (.cells #[] 85)) w.heap.size (.slice (some ⟨w.heap.size, 0, none⟩) 0 0) [] := ⟨by simp [RowT.flat], .inr ⟨w.heap.size, 0, #[], rfl, Nat.le_refl _, heap_alloc_new _ _, Nat.le_refl _, by decide, by simp, by simp [RowT.flat]⟩⟩
  obtain ⟨a, c, rfl, hat, hc, hcm, _⟩ := hL.open RN_is ok
  obtain ⟨v', w2, e2, o2, g2, q2⟩ := RowT.run_app RN_is _ w.heap.size _ [] a L c o1 (hat.below b1) ok (by simp; unfold maxLen; omega) (by show _ * 80 ≤ _; simp; omega) b1.size
  have B2 : Below w.heap.size w w2 := b1.grown g2 b1.size (fun k hk => (o1.cells hk).1)
  obtain ⟨ea, ec, rfl⟩ := o2.form
  exact ⟨_, _, ea, ec, w2, bs_en0 w, b1, e2, o2, B2⟩
abbrev Sls := List ((PlK × SlV) × List EnV)
def Sls.row (X : Sls) : List (PlK × SlV) := X.map (·.1)
def Sls.key (X : Sls) : List (PlK × List EnV) := X.map (fun q => (q.1.1, q.2))
def SlsAt (w : World) (base : Nat) (X : Sls) : Prop := ∀ q ∈ X, RN.Lo w base q.1.2.v q.2 ∧ q.1.1.ok ∧ (∀ x ∈ q.2, x.ok) ∧ q.2.length ≤ 2500000000000
theorem SlsAt.below {w w' : World} {base : Nat} {X : Sls} (h : SlsAt w base X) (b : Below w.heap.size w w') : SlsAt w' base X := fun q hq => ⟨(h q hq).1.below b, (h q hq).2⟩
theorem SlsAt.mono {w : World} {base b2 : Nat} {X : Sls} (h : SlsAt w base X) (hb : b2 ≤ base) : SlsAt w b2 X := fun q hq => ⟨(h q hq).1.mono hb, (h q hq).2⟩
theorem SlsAt.keep {w w' : World} {base : Nat} {X : Sls} (h : SlsAt w base X) {O : Nat → Prop} (t : Tch O w w') (hO : ∀ j c, w.heap[j]? = some (.cells c 85 (0, 0)) → ¬ O j) : SlsAt w' base X := fun q hq => ⟨(h q hq).1.keep (fun k hk => by
  obtain ⟨_, c, hc⟩ := (h q hq).1.cells hk
  exact t.block k ((h q hq).1.lt hk) (hO k c hc)), (h q hq).2⟩
theorem copied_any {w : World} {base : Nat} {X : Sls} (hX : SlsAt w base X) (hn : X.length ≤ 1100000000000) {a : Option Addr} {c : Nat} (ha : RT.At w a X.row) :
    Calls Tryz.prog 71 #[.slice a X.length c] w fun e w' => ∃ (v : SlV) (Y : Sls), e = .returned v.v ∧ Y.key = X.key ∧ RT.Own w' w.heap.size v.v Y.row ∧ SlsAt w' w.heap.size Y ∧ Below w.heap.size w w' := by
  obtain ⟨n, hnn⟩ : ∃ n, X.length = n := ⟨_, rfl⟩
  have HL := hidMk (And.intro ha (And.intro hX hnn))
  rw [hnn] at hn ⊢
  clear ha hX hnn
  go_enter Tryz.func71, Tryz.ntmps71
  go_wp2
  go_loopw [3, 4] (fun v3 v4 wr => ∃ i : Nat, v4 = .int .i64 (i : Int) ∧ i ≤ n ∧ Hid (∃ (v : SlV) (Y : Sls), v3 = v.v ∧ Y.key = Sls.key (X.take i) ∧ RT.Own wr w.heap.size v.v Y.row ∧ SlsAt wr w.heap.size Y ∧ Below w.heap.size w wr)) (fun _ v4 wr => n - (match v4 with | .int _ i => i.toNat | _ => 0))
  case atStart => exact ⟨0, rfl, Nat.zero_le _, ⟨none, 0, 0⟩, [], rfl, by simp [Sls.key], RowT.own_nil RT _ _, (fun q hq => by cases hq), Below.refl _ _⟩
  case round =>
    obtain ⟨i, rfl, hin, HI⟩ := hrel
    obtain ⟨v, Y, rfl, hk, ho, hs, bel⟩ := HI.out
    by_cases hi : i < n
    · obtain ⟨ha, hX, hnn⟩ := HL.out
      obtain ⟨q, hxi⟩ : ∃ q, X[i]? = some q := ⟨_, List.getElem?_eq_getElem (by omega)⟩
      obtain ⟨hlo, hp, hqo, hqn⟩ := hX q (List.mem_of_getElem? hxi)
      obtain ⟨g, o, rfl, lg, hr⟩ : ∃ g o, a = some ⟨g, o, none⟩ ∧ g < w.heap.size ∧ w.rangeAt g (o + 68 * i) (RT.c q.1) := by
        rcases ha with h | ⟨g, o, e, h1, h2⟩
        · have : X = [] := by simpa [Sls.row] using h
          rw [this] at hxi; cases hxi
        · exact ⟨g, o, e, h1, h2 i q.1 (by rw [Sls.row, List.getElem?_map, hxi]; rfl)⟩
      have bd : Below wr.heap.size wr wr.drew := (Below.refl _ _).drew
      have beld : Below w.heap.size w wr.drew := bel.drew
      have hlod : RN.Lo wr.drew base q.1.2.v q.2 := hlo.below beld
      obtain ⟨e0, w1, ea, ec, w2, E1, b1, E2, o2, b2⟩ := dup_en hlod hqo hqn
      have hy : Y.length = i := by
        have := congrArg List.length hk
        simpa [Sls.key, Nat.min_eq_left (show i ≤ X.length by omega)] using this
      have ho2 : RT.Own w2 w.heap.size v.v Y.row := (ho.below bd).below b2
      obtain ⟨bv, w3, ov, w4, E3, E4, o4, b3, z3, g4, q4⟩ := RowT.run_push RT_is w2 w.heap.size v.v Y.row (q.1.1, ⟨ea, q.2.length, ec⟩) ho2 hp (by rw [Sls.row, List.length_map, hy]; unfold maxLen; omega) (by rw [Sls.row, List.length_map, hy]; show _ * 120 ≤ _; omega) (Nat.le_trans bel.size b2.size)
      have bel2 : Below w.heap.size w w2 := beld.trans (b2.mono beld.size)
      have bel3 : Below w.heap.size w w3 := bel2.trans (b3.mono bel2.size)
      have ho3 := ho2.below b3
      have bel4 : Below w.heap.size w w4 := bel3.grown g4 bel3.size (fun k hk => (ho3.cells hk).1)
      obtain ⟨oa, oc, eo⟩ := o4.form
      have hs4 : SlsAt w4 w.heap.size (Y ++ [((q.1.1, ⟨ea, q.2.length, ec⟩), q.2)]) := by
        have t : Tch (fun j => v.v.ownBlock = some j) w3 w4 := ⟨g4.os, g4.tape, g4.output, g4.size, fun j hj hn => g4.block j hj (fun e => hn e.symm)⟩
        have hO : ∀ j c, w3.heap[j]? = some (.cells c 85 (0, 0)) → ¬ (v.v.ownBlock = some j) := fun j c hc e => by
          obtain ⟨_, c2, hc2⟩ := ho3.cells e
          rw [hc] at hc2
          injection hc2 with hc2
          injection hc2 with _ h2 _
          revert h2
          decide
        have s3 : SlsAt w3 w.heap.size (Y ++ [((q.1.1, ⟨ea, q.2.length, ec⟩), q.2)]) := fun z hz => by
          rcases List.mem_append.1 hz with h | h
          · exact (((hs.below bd).below b2).below b3) z h
          · rw [List.mem_singleton.1 h]
            exact ⟨(o2.lo.mono bel.size).below b3, hp, hqo, hqn⟩
        exact s3.keep t hO
      have NX := hidMk (show ∃ (v' : SlV) (Y' : Sls), ov = v'.v ∧ Y'.key = Sls.key (X.take (i + 1)) ∧ RT.Own w4 w.heap.size v'.v Y'.row ∧ SlsAt w4 w.heap.size Y' ∧ Below w.heap.size w w4 from ⟨⟨oa, _, oc⟩, Y ++ [((q.1.1, ⟨ea, q.2.length, ec⟩), q.2)], eo, by
        unfold Sls.key at *
        rw [List.map_append, hk, List.take_add_one, hxi]
        simp, by
        have : Sls.row (Y ++ [((q.1.1, ⟨ea, q.2.length, ec⟩), q.2)]) = Y.row ++ [(q.1.1, ⟨ea, q.2.length, ec⟩)] := by simp [Sls.row]
        rw [this]
        show RT.Own w4 w.heap.size (.slice oa _ oc) _
        rw [← eo]
        exact o4, hs4, bel4⟩)
      have LD := hidMk (show ∀ W, Below w.heap.size w W → (Instr.loadAt 68 (.pointer (some ⟨g, o + 68 * i + 0, none⟩))).run Tryz.prog W = .ok q.1.1.v W ∧ (Instr.loadAt 71 (.pointer (some ⟨g, o + 68 * i + 67, none⟩))).run Tryz.prog W = .ok q.1.2.v W from fun W b => ⟨rt_pl hp (rangeAt_keep hr (b.block _ lg)), rt_en hp (rangeAt_keep hr (b.block _ lg))⟩)
      have HE := hidMk (And.intro E1 (And.intro E2 (And.intro E3 E4)))
      have HB := hidMk (And.intro beld (And.intro (beld.trans (b1.mono beld.size)) (And.intro bel2 (And.intro bel3 bel4))))
      have h63 : n ≤ 9223372036854775807 := by omega
      clear E1 E2 E3 E4 hs4 o4 o2 ho2 ho3 g4 q4 z3 b1 b2 b3 bel2 bel3 bel4 eo hlod hlo hr lg hk ho hs bel HI hX ha hnn hxi bd beld hy
      go_upto_region 5 with fail
      refine cpy5 (g := g) (o := o) (n := n) (c := c) (i := i) (en := q.2.length) (ec := ec) (ea := ea) (p := q.1.1) (lv := q.1.2.v) (ov := v.v) (e0 := e0) (bv := bv) (ov2 := ov) (w1 := w1) (w2 := w2) (w3 := w3) (w4 := w4) (fun W => Below w.heap.size w W) _ wr _ rfl rfl rfl rfl hp hi h63 HB.out.1 (fun W b => (LD.out W b).1) (fun W b => (LD.out W b).2) HE.out.1 HB.out.2.1 HE.out.2.1 HB.out.2.2.1 HE.out.2.2.1 HB.out.2.2.2.1 HE.out.2.2.2 HB.out.2.2.2.2 ?_
      intro a' w5 hf ha
      subst ha
      subst hf
      simp only [Act.put, List.setIfInBounds_toArray, List.set_cons_zero, List.set_cons_succ]
      clear HE HB LD
      go_wp2
      rw [show ((i : Int) + 1) = ((i + 1 : Nat) : Int) by omega]
      refine ⟨⟨i + 1, rfl, hi, NX.out⟩, ?_⟩
      show n - ((i + 1 : Nat) : Int).toNat < n - (i : Int).toNat
      omega
    · obtain rfl : i = n := by omega
      have HR := hidMk (And.intro hk (And.intro ho (And.intro hs bel)))
      clear hk ho hs bel HI
      go_wp2
      go_ret
      obtain ⟨hk, ho, hs, bel⟩ := HR.out
      obtain ⟨_, _, hnn⟩ := HL.out
      rw [List.take_of_length_le (by omega)] at hk
      exact ⟨v, Y, rfl, hk, ho, hs, bel⟩
def Vals (w : World) (a : Option Addr) (X : List Value) : Prop := X = [] ∨ ∃ b off, a = some ⟨b, off, none⟩ ∧ ∀ j u, X[j]? = some u → w.cell? ⟨b, off + j, none⟩ = some u
def OwnV (w : World) (base : Nat) (e : TypeId) (v : Value) (X : List Value) : Prop := w.ownsRow base e 1 v X.length X
theorem Vals.below {w w' : World} {a : Option Addr} {X : List Value} (h : Vals w a X) (hb : Below w.heap.size w w') : Vals w' a X := by
  rcases h with rfl | ⟨b, off, rfl, hc⟩
  · exact .inl rfl
  · exact .inr ⟨b, off, rfl, fun j u hj => (hb.cell (p := ⟨b, off + j, none⟩) (block_lt_of_cell (hc j u hj))).trans (hc j u hj)⟩
theorem OwnV.below {w w' : World} {base : Nat} {e : TypeId} {v : Value} {X : List Value} (h : OwnV w base e v X) (hb : Below w.heap.size w w') : OwnV w' base e v X := by
  refine ⟨h.1, ?_⟩
  rcases h.2 with hn | ⟨g, cap, cur, rfl, hbg, hg, rest⟩
  · exact .inl hn
  · exact .inr ⟨g, cap, cur, rfl, hbg, by rw [hb.block g (Array.getElem?_eq_some_iff.1 hg).1]; exact hg, rest⟩
theorem OwnV.keep {w w' : World} {base : Nat} {e : TypeId} {v : Value} {X : List Value} (h : OwnV w base e v X) (hk : ∀ k, v.ownBlock = some k → w'.heap[k]? = w.heap[k]?) : OwnV w' base e v X := by
  refine ⟨h.1, ?_⟩
  rcases h.2 with hn | ⟨g, cap, cur, rfl, hbg, hg, rest⟩
  · exact .inl hn
  · exact .inr ⟨g, cap, cur, rfl, hbg, by rw [hk g rfl]; exact hg, rest⟩
theorem OwnV.ge {w : World} {base : Nat} {e : TypeId} {v : Value} {X : List Value} (h : OwnV w base e v X) : ∀ j, v.ownBlock = some j → base ≤ j ∧ ∃ c, w.heap[j]? = some (.cells c e (0, 0)) := by
  intro j hj
  rcases h.2 with ⟨rfl, hn⟩ | ⟨g, cap, cur, rfl, hbg, hg, rest⟩
  · cases hj
  · obtain rfl : g = j := by simpa [Value.ownBlock] using hj
    exact ⟨hbg, _, hg⟩
theorem OwnV.open {w : World} {base : Nat} {e : TypeId} {v : Value} {X : List Value} (h : OwnV w base e v X) :
    ∃ a cap, v = .slice a X.length cap ∧ X.length ≤ cap ∧ Vals w a X ∧ (a = none → X = [] ∧ cap = 0) := by
  rcases h.2 with ⟨rfl, hn⟩ | ⟨g, cap, cur, rfl, hbg, hg, hnc, hcm, hcs, htake⟩
  · obtain rfl : X = [] := List.eq_nil_of_length_eq_zero hn
    exact ⟨none, 0, rfl, Nat.le_refl _, .inl rfl, fun _ => ⟨rfl, rfl⟩⟩
  · refine ⟨some ⟨g, 0, none⟩, cap, rfl, hnc, .inr ⟨g, 0, rfl, fun j u hj => ?_⟩, fun h => by cases h⟩
    rw [Nat.zero_add, cell_of_row w g j cur e (0, 0) hg]
    rw [← htake, List.getElem?_take] at hj
    split at hj
    · simpa using hj
    · cases hj
theorem run_appV (T e y : TypeId) (z : Value) (ht : Tryz.prog.underlying T = some (.slice e)) (hi : (Tryz.prog.info? e).map (fun i => (i.zero, i.size, i.bytes)) = some (some z, 1, y)) (hy : y = 8 ∨ y = 24) (hz1 : z.cells.size = 1)
    (w : World) (base : Nat) (ty : TypeId) (v : Value) (L : List Value) (a : Option Addr) (M : List Value) (c : Nat) (hown : OwnV w base e v L) (hb : Vals w a M) (h1 : ∀ u ∈ M, u.oneCell' = true)
    (h : L.length + M.length ≤ 2000000000000) (hbase : base ≤ w.heap.size) :
    ∃ v' w', (Builtin.append_ #[T, T] ty #[v, .slice a M.length c]).run Tryz.prog w = .ok v' w' ∧ OwnV w' base e v' (L ++ M) ∧ w.grownBy w' v.ownBlock ∧ (v'.ownBlock = v.ownBlock ∨ v'.ownBlock = some w.heap.size) := by
  obtain ⟨i, hi, hz, hs, hby⟩ := info_parts hi
  cases a with
  | some ad =>
    have hnews : ∀ j u, M[j]? = some u → w.cell? (ad.add j) = some u := fun j u hj => by
      rcases hb with rfl | ⟨b, off, e, hc⟩
      · simp at hj
      · cases e
        rw [Addr.add_mid]
        exact hc j u hj
    obtain ⟨v', w', hr, h2, h3, h5⟩ := app_at (P := Tryz.prog) w base T ty e i z 1 y ht hi hz hs hby hz1 (by decide) v L.length L hown ad M.length c M (by omega) hnews h1 (by unfold maxLen; omega) (by rcases hy with rfl | rfl <;> omega) hbase
    refine ⟨v', w', hr, ?_, h3, h5⟩
    unfold OwnV
    rw [List.length_append]
    exact h2
  | none =>
    obtain rfl : M = [] := by
      rcases hb with rfl | ⟨b, off, e, _⟩
      · rfl
      · cases e
    rcases hown.2 with ⟨rfl, hn⟩ | ⟨g, cap, cur, rfl, hbg, hg, hnc, rest⟩
    · refine ⟨.slice none 0 0, w, ?_, by rw [List.append_nil]; exact hown, ⟨rfl, rfl, rfl, Nat.le_refl _, fun _ _ _ => rfl⟩, .inl rfl⟩
      simp [Builtin.append_, run_underlying ht, sizeOf, typeInfo, hi, Builtin.lenOf, Builtin.firstCells, loadCells, loadCellsFrom]
    · refine ⟨.slice (some ⟨g, 0, none⟩) L.length cap, w, ?_, by rw [List.append_nil]; exact hown, ⟨rfl, rfl, rfl, Nat.le_refl _, fun _ _ _ => rfl⟩, .inl rfl⟩
      simp [Builtin.append_, run_underlying ht, sizeOf, typeInfo, hi, Builtin.lenOf, Builtin.firstCells, hnc, storeCells]
def ren4_o0 : Oper := ⟨some 11, .buildSlice 71 0 #[], 71, "ref.go:146", #[], none⟩
def ren4_o1 : Oper := ⟨some 12, .move (.tmp 0), 28, "ref.go:146", #[], none⟩
def ren4_o2 : Oper := ⟨some 13, .nilCheck (.tmp 12), 0, "ref.go:146", #[⟨1, .data⟩], none⟩
def ren4_o3 : Oper := ⟨some 14, .fieldAddr 95 (.tmp 13) 0, 0, "ref.go:146", #[⟨2, .data⟩], none⟩
def ren4_o4 : Oper := ⟨some 15, .load 92 (.tmp 14), 92, "ref.go:146", #[⟨3, .data⟩], none⟩
def ren4_o5 : Oper := ⟨some 16, .move (.tmp 5), 3, "ref.go:146", #[], none⟩
def ren4_o6 : Oper := ⟨some 17, .indexAddr 92 (.tmp 15) (.tmp 16), 0, "ref.go:146", #[⟨4, .data⟩, ⟨5, .data⟩], none⟩
def ren4_o7 : Oper := ⟨some 18, .fieldAddr 174 (.tmp 17) 1, 0, "ref.go:146", #[⟨6, .data⟩], none⟩
def ren4_o8 : Oper := ⟨some 19, .load 71 (.tmp 18), 71, "ref.go:146", #[⟨7, .data⟩], none⟩
def ren4_o9 : Oper := ⟨some 20, .call { callee := Callee.builtin Builtin.append, args := #[.tmp 11, .tmp 19], argTypes := #[71, 71] }, 71, "ref.go:146", #[⟨0, .data⟩, ⟨8, .data⟩], none⟩
def ren4_o10 : Oper := ⟨some 4, .assign (.tmp 20), 71, "ref.go:146", #[⟨9, .data⟩, ⟨9, .chain⟩, ⟨0, .phase⟩, ⟨1, .phase⟩, ⟨2, .phase⟩, ⟨3, .phase⟩, ⟨4, .phase⟩, ⟨5, .phase⟩, ⟨6, .phase⟩, ⟨7, .phase⟩, ⟨8, .phase⟩, ⟨9, .phase⟩], none⟩
def ren4_ops : Array Oper := #[ren4_o0, ren4_o1, ren4_o2, ren4_o3, ren4_o4, ren4_o5, ren4_o6, ren4_o7, ren4_o8, ren4_o9, ren4_o10]
theorem ren4 {d g o n c i : Nat} {lv e0 ev : Value} {w1 w2 : World} (a : Act) (w : World) (Q : Exit → Act → World → Prop) (zz : a.tmps.size = 21)
    (t0 : a.tmps.getD 0 undef = .pointer (some ⟨d, 0, none⟩))
    (t5 : a.tmps.getD 5 undef = .int .i64 (i : Int))
    (hi : i < n) (hm : n ≤ 9223372036854775807) (L1 : ∀ W, W = w1 → (Instr.loadAt 92 (.pointer (some ⟨d, 0 + 0, none⟩))).run Tryz.prog W = .ok (.slice (some ⟨g, o, none⟩) n c) W) (L2 : ∀ W, W = w1 → (Instr.loadAt 71 (.pointer (some ⟨g, o + 68 * i + 67, none⟩))).run Tryz.prog W = .ok (lv) W) (E1 : (Instr.buildSlice 71 0 #[]).run Tryz.prog w = .ok e0 w1) (E2 : (Builtin.append_ #[71, 71] 71 #[e0, lv]).run Tryz.prog w1 = .ok ev w2)
    (h : ∀ (a' : Act) (w' : World), w' = w2 → a' = (((((((((((a).put (some 11) (e0)).put (some 12) (.pointer (some ⟨d, 0, none⟩))).put (some 13) (.pointer (some ⟨d, 0, none⟩))).put (some 14) (.pointer (some ⟨d, 0 + 0, none⟩))).put (some 15) (.slice (some ⟨g, o, none⟩) n c)).put (some 16) (.int .i64 (i : Int))).put (some 17) (.pointer (some ⟨g, o + 68 * i, none⟩))).put (some 18) (.pointer (some ⟨g, o + 68 * i + 67, none⟩))).put (some 19) (lv)).put (some 20) (ev)).put (some 4) (ev) → Q .normal a' w') :
    (Code.region 4 ren4_ops false).wp Tryz.prog Q a w := by
  refine z0 rfl ?_
  refine zv (v := e0) rfl (exec_bs0 rfl E1) ?_
  refine zv rfl (exec_move rfl (zi t0 rfl)) ?_
  refine zv rfl (exec_nilCheck rfl (zg zz rfl)) ?_
  refine zv rfl (exec_fieldAt rfl (zg zz rfl) (fg_95_0 _ _ _)) ?_
  refine zv rfl (exec_load rfl (zg zz rfl) (L1 _ rfl)) ?_
  refine zv rfl (exec_move rfl (zi t5 rfl)) ?_
  refine zv rfl (exec_indexAt rfl (zg zz rfl) (zg zz rfl) (ix_sl hi hm _)) ?_
  refine zv rfl (exec_fieldAt rfl (zg zz rfl) (fg_174_1 _ _ _)) ?_
  refine zv rfl (exec_load rfl (zg zz rfl) (L2 _ rfl)) ?_
  refine zv (v := ev) rfl (exec_append rfl (zg zz rfl) (zg zz rfl) E2) ?_
  refine zv rfl (exec_assign rfl (zg zz rfl)) ?_
  exact ze rfl (h _ _ (rfl) rfl)
structure SlOk (X : Sls) : Prop where
  nd : (X.map (·.1.1)).Nodup
  ne : ∀ q ∈ X, q.2 ≠ []
structure RfP (B : Nat) (w : World) (d : Nat) (X : Sls) (v : SlV) (pv : Value) (H : List (SlV × Sls)) : Prop where
  cell : w.heap[d]? = some (.cells #[v.v, pv] 95 (0, 0))
  sl : RT.Own w B v.v X.row
  en : SlsAt w B X
  past : OwnV w B 92 pv (H.map (·.1.v))
  ph : ∀ h ∈ H, RT.Own w B h.1.v h.2.row ∧ SlsAt w B h.2 ∧ SlOk h.2
  dB : B ≤ d
  ap : ∀ h ∈ H, ∀ j, h.1.v.ownBlock = some j → v.v.ownBlock ≠ some j
  ap2 : H.Pairwise (fun a b => ∀ j, a.1.v.ownBlock = some j → b.1.v.ownBlock ≠ some j)
  ok : SlOk X
def rfB (d : Nat) (v : SlV) (pv : Value) (H : List (SlV × Sls)) (j : Nat) : Prop := j = d ∨ v.v.ownBlock = some j ∨ pv.ownBlock = some j ∨ ∃ h ∈ H, h.1.v.ownBlock = some j
section
variable {B : Nat} {w w' : World} {d : Nat} {X : Sls} {v : SlV} {pv : Value} {H : List (SlV × Sls)}
theorem RfP.keep {O : Nat → Prop} (h : RfP B w d X v pv H) (t : Tch O w w') (hO : ∀ j, rfB d v pv H j → ¬ O j) (hE : ∀ j c, w.heap[j]? = some (.cells c 85 (0, 0)) → B ≤ j → ¬ O j) : RfP B w' d X v pv H := by
  have ke : ∀ Y, SlsAt w B Y → SlsAt w' B Y := fun Y hY q hq => ⟨(hY q hq).1.keep (fun k hk => by
    obtain ⟨hb, c, hc⟩ := (hY q hq).1.cells hk
    exact t.block k ((hY q hq).1.lt hk) (hE k c hc hb)), (hY q hq).2⟩
  refine ⟨(t.block d (Array.getElem?_eq_some_iff.1 h.cell).1 (hO d (.inl rfl))).trans h.cell, h.sl.keep fun j hj => t.block j (h.sl.lt hj) (hO j (.inr (.inl hj))), ke X h.en, h.past.keep fun j hj => ?_, fun q hq => ⟨(h.ph q hq).1.keep fun j hj => t.block j ((h.ph q hq).1.lt hj) (hO j (.inr (.inr (.inr ⟨q, hq, hj⟩)))), ke _ (h.ph q hq).2.1, (h.ph q hq).2.2⟩, h.dB, h.ap, h.ap2, h.ok⟩
  obtain ⟨_, c, hc⟩ := h.past.ge j hj
  exact t.block j (Array.getElem?_eq_some_iff.1 hc).1 (hO j (.inr (.inr (.inl hj))))
theorem RfP.below (h : RfP B w d X v pv H) (b : Below w.heap.size w w') : RfP B w' d X v pv H :=
  h.keep (O := fun _ => False) ⟨b.os, b.tape, b.output, b.size, fun k hk _ => b.block k hk⟩ (fun _ _ q => q) (fun _ _ _ _ q => q)
theorem Sls.row_ok (h : SlsAt w B X) : ∀ x ∈ X.row, RT.ok x := fun x hx => by
  obtain ⟨q, hq, rfl⟩ := List.mem_map.1 hx
  exact (h q hq).2.1
theorem RfP.rfS (h : RfP B w d X v pv H) : ∃ a c, v.v = .slice a X.length c ∧ RT.At w a X.row := by
  obtain ⟨a, c, e, hat, _⟩ := h.sl.open RT_is (Sls.row_ok h.en)
  rw [show X.row.length = X.length by simp [Sls.row]] at e
  exact ⟨a, c, e, hat⟩
theorem RfP.pastS (h : RfP B w d X v pv H) : ∃ p : SlV, pv = p.v := by
  obtain ⟨a, c, e, _⟩ := h.past.open
  exact ⟨⟨a, _, c⟩, e⟩
def entF (X : Sls) (p : PlK) : List EnV := ((X.find? (fun q => decide (q.1.1 = p))).map (·.2)).getD []
theorem fnd_ent (X : Sls) (p : PlK) : (fndI X.row p = -1 ∧ entF X p = []) ∨ ∃ (i : Nat) (q : (PlK × SlV) × List EnV), fndI X.row p = (i : Int) ∧ X[i]? = some q ∧ q.1.1 = p ∧ entF X p = q.2 := by
  unfold fndI entF Sls.row
  rw [List.findIdx?_map]
  cases e : X.findIdx? ((fun x : PlK × SlV => decide (x.1 = p)) ∘ (·.1)) with
  | none =>
    refine .inl ⟨rfl, ?_⟩
    rw [List.find?_eq_none.2 (fun q hq => by have := List.findIdx?_eq_none_iff.1 e q hq; simpa using this)]
    rfl
  | some i =>
    obtain ⟨hi, h1, h2⟩ := List.findIdx?_eq_some_iff_getElem.1 e
    refine .inr ⟨i, X[i], rfl, List.getElem?_eq_getElem hi, by simpa using h1, ?_⟩
    have : X.find? (fun q => decide (q.1.1 = p)) = some X[i] := by
      rw [List.find?_eq_some_iff_getElem]
      exact ⟨by simpa using h1, i, hi, rfl, fun j hj => by have := h2 j hj; simpa using this⟩
    rw [this]
    rfl
end
theorem rf_new (w : World) : Calls Tryz.prog 6 #[] w fun e w' => ∃ d, e = .returned (.pointer (some ⟨d, 0, none⟩)) ∧ RfP w.heap.size w' d [] ⟨none, 0, 0⟩ (.slice none 0 0) [] ∧ Below w.heap.size w w' := by
  go_enter Tryz.func6, Tryz.ntmps6
  go_wp2
  go_ret
  exact ⟨_, rfl, ⟨heap_alloc_new _ _, RowT.own_nil RT _ _, (fun q hq => by cases hq), ⟨rfl, Or.inl ⟨rfl, rfl⟩⟩, (fun q hq => by cases hq), Nat.le_refl _, (fun q hq => by cases hq), List.Pairwise.nil, ⟨by simp, fun q hq => by cases hq⟩⟩, (Below.refl _ _).alloc (Nat.le_refl _) _⟩
theorem rf_len {B : Nat} {w : World} {d : Nat} {X : Sls} {v : SlV} {pv : Value} {H : List (SlV × Sls)} (h : RfP B w d X v pv H) : Calls Tryz.prog 50 #[.pointer (some ⟨d, 0, none⟩)] w fun e w' => e = .returned (.int .i64 (X.length : Int)) ∧ w' = w := by
  obtain ⟨a, c, e, _⟩ := h.rfS
  have c0 : w.cell? ⟨d, 0, none⟩ = some (.slice a X.length c) := by rw [← e]; exact (cell_of_row w d 0 _ _ _ h.cell).trans rfl
  clear h e
  go_enter Tryz.func50, Tryz.ntmps50
  go_wp2
  go_ret
  exact ⟨rfl, rfl⟩
theorem rf_steps {B : Nat} {w : World} {d : Nat} {X : Sls} {v : SlV} {pv : Value} {H : List (SlV × Sls)} (h : RfP B w d X v pv H) : Calls Tryz.prog 28 #[.pointer (some ⟨d, 0, none⟩)] w fun e w' => e = .returned (.int .i64 (H.length : Int)) ∧ w' = w := by
  obtain ⟨a, c, e, _⟩ := h.past.open
  rw [List.length_map] at e
  have c1 : w.cell? ⟨d, 1, none⟩ = some (.slice a H.length c) := by rw [← e]; exact (cell_of_row w d 1 _ _ _ h.cell).trans rfl
  clear h e
  go_enter Tryz.func28, Tryz.ntmps28
  go_wp2
  go_ret
  exact ⟨rfl, rfl⟩
theorem rf_entries {B : Nat} {w : World} {d : Nat} {X : Sls} {v : SlV} {pv : Value} {H : List (SlV × Sls)} (h : RfP B w d X v pv H) (hn : X.length ≤ 1100000000000) {p : PlK} (hp : p.ok) :
    Calls Tryz.prog 52 #[.pointer (some ⟨d, 0, none⟩), p.v] w fun e w' => ∃ u, e = .returned u ∧ RN.Own w' w.heap.size u (entF X p) ∧ Below w.heap.size w w' := by
  obtain ⟨a, c, e, hat⟩ := h.rfS
  obtain ⟨ps, hps⟩ := h.pastS
  obtain ⟨w1, E1, n1, b1⟩ := box_pl w p
  have h1 := h.below b1
  have hS : RfS w1 d a c X.row ps := ⟨by rw [show X.row.length = X.length by simp [Sls.row], ← e, ← hps]; exact h1.cell, hat.below b1, fun x hx => Sls.row_ok h.en x hx⟩
  have CF := hidMk (find_any hS (by simp [Sls.row]; omega) hp)
  have LP := hidMk (ld_pl hp (rng_cells n1))
  have H1 := hidMk E1
  rcases fnd_ent X p with ⟨ef, en⟩ | ⟨i, q, ef, hq, hqp, en⟩
  · rw [ef] at CF
    rw [en]
    have HB := hidMk b1
    clear h h1 hS e hat hps E1 n1 b1 ef en
    go_enter Tryz.func52, Tryz.ntmps52
    go_wp2_with (first
      | (refine wpList_run rfl (exec_boxE (t := 68) (v := p.v) (u := .pointer (some ⟨w.heap.size, 0, none⟩)) (w2 := w1) rfl rfl H1.out) ?_)
      | (refine wpList_val rfl (exec_load (t := 68) (v := p.v) rfl rfl LP.out) ?_)
      | (go_at_call 80; refine CF.out.mono ?_; rintro e w2 ⟨rfl, b2⟩; have B2 := hidMk b2; clear b2 CF)
      | fail)
    go_ret
    exact ⟨_, rfl, RowT.own_nil RN _ _, HB.out.trans (B2.out.mono HB.out.size)⟩
  · rw [ef] at CF
    rw [en]
    obtain ⟨hlo, hqo, hqx, hqn⟩ := h.en q (List.mem_of_getElem? hq)
    obtain ⟨g, o, rfl, lg, hr⟩ : ∃ g o, a = some ⟨g, o, none⟩ ∧ g < w1.heap.size ∧ w1.rangeAt g (o + 68 * i) (RT.c q.1) := by
      rcases hS.sl with h | ⟨g, o, e, h1, h2⟩
      · have : X = [] := by simpa [Sls.row] using h
        rw [this] at hq; cases hq
      · exact ⟨g, o, e, h1, h2 i q.1 (by rw [Sls.row, List.getElem?_map, hq]; rfl)⟩
    have hi : i < X.length := (List.getElem?_eq_some_iff.1 hq).1
    have TAIL : Hid (∀ w2, Below w1.heap.size w1 w2 → ∃ e0 v1 ev w3, (∀ W, W = v1 → (Instr.loadAt 92 (.pointer (some ⟨d, 0 + 0, none⟩))).run Tryz.prog W = .ok (.slice (some ⟨g, o, none⟩) X.length c) W) ∧ (∀ W, W = v1 → (Instr.loadAt 71 (.pointer (some ⟨g, o + 68 * i + 67, none⟩))).run Tryz.prog W = .ok q.1.2.v W) ∧ (Instr.buildSlice 71 0 #[]).run Tryz.prog w2 = .ok e0 v1 ∧ (Builtin.append_ #[71, 71] 71 #[e0, q.1.2.v]).run Tryz.prog v1 = .ok ev w3 ∧ RN.Own w3 w.heap.size ev q.2 ∧ Below w.heap.size w w3) := by
      intro w2 b2
      have bw2 : Below w.heap.size w w2 := b1.trans (b2.mono b1.size)
      obtain ⟨e0, v1, ea, ec, w3, E1, c1, E2, o2, c2⟩ := dup_en (hlo.below bw2) hqx hqn
      have c12 := b2.trans (c1.mono b2.size)
      refine ⟨e0, v1, _, w3, fun W e => ?_, fun W e => ?_, E1, E2, o2.mono bw2.size, bw2.trans (c2.mono bw2.size)⟩
      · rw [e]
        have := (hS.below c12).lds
        rw [show X.row.length = X.length by simp [Sls.row]] at this
        exact this
      · rw [e]; exact rt_en hqo (rangeAt_keep hr (c12.block _ lg))
    have h63 : X.length ≤ 9223372036854775807 := by omega
    clear h h1 hS hat hps E1 n1 b1 ef en hr lg hlo hqx hqn e hq
    obtain ⟨n, hnn⟩ : ∃ n, X.length = n := ⟨_, rfl⟩
    rw [hnn] at TAIL hi h63 hn
    clear hnn
    go_enter Tryz.func52, Tryz.ntmps52
    go_upto_region 4 with (first
      | (refine wpList_run rfl (exec_boxE (t := 68) (v := p.v) (u := .pointer (some ⟨w.heap.size, 0, none⟩)) (w2 := w1) rfl rfl H1.out) ?_)
      | (refine wpList_val rfl (exec_load (t := 68) (v := p.v) rfl rfl LP.out) ?_)
      | (go_at_call 80; refine CF.out.mono ?_; rintro e w2 ⟨rfl, b2⟩; have B2 := hidMk b2; clear b2 CF)
      | fail)
    obtain ⟨e0, v1, ev, w3, l1, l2, E1, E2, oo, bb⟩ := TAIL.out w2 B2.out
    refine ren4 (d := d) (g := g) (o := o) (n := n) (c := c) (i := i) (lv := q.1.2.v) (e0 := e0) (ev := ev) (w1 := v1) (w2 := w3) _ w2 _ rfl rfl rfl hi h63 l1 l2 E1 E2 ?_
    intro a' w4 hf ha
    subst ha
    subst hf
    simp only [Act.put, List.setIfInBounds_toArray, List.set_cons_zero, List.set_cons_succ]
    have HF := hidMk (And.intro oo bb)
    clear l1 l2 E1 E2 oo bb TAIL B2
    go_wp2
    go_ret
    exact ⟨ev, rfl, HF.out.1, HF.out.2⟩
theorem ex_not {w : World} {a : Act} {o : Oper} {x : Operand} {r : Bool} (ho : o.op = .unOp .not 4 x) (hx : a.eval x = .bool r) : (execOp a.eval o).run Tryz.prog w = .ok (.value (.bool (!r))) w := by
  have := exec_not (P := Tryz.prog) (w := w) ho hx
  exact this
def les6_o0 : Oper := ⟨some 19, .move (.tmp 2), 64, "ref.go:89", #[], none⟩
def les6_o1 : Oper := ⟨some 20, .move (.tmp 8), 71, "ref.go:89", #[], none⟩
def les6_o2 : Oper := ⟨some 21, .move (.tmp 9), 3, "ref.go:89", #[], none⟩
def les6_o3 : Oper := ⟨some 22, .indexAddr 71 (.tmp 20) (.tmp 21), 0, "ref.go:89", #[⟨1, .data⟩, ⟨2, .data⟩], none⟩
def les6_o4 : Oper := ⟨some 23, .fieldAddr 85 (.tmp 22) 0, 0, "ref.go:89", #[⟨3, .data⟩], none⟩
def les6_o5 : Oper := ⟨some 24, .load 59 (.tmp 23), 59, "ref.go:89", #[⟨4, .data⟩], none⟩
def les6_o6 : Oper := ⟨some 25, .call { callee := Callee.value (Operand.func 23), args := #[.tmp 19, .tmp 24], argTypes := #[64, 59] }, 4, "ref.go:89", #[⟨0, .data⟩, ⟨5, .data⟩], none⟩
def les6_o7 : Oper := ⟨some 26, .unOp UnOp.not 4 (.tmp 25), 4, "ref.go:89", #[⟨6, .data⟩], none⟩
def les6_ops : Array Oper := #[les6_o0, les6_o1, les6_o2, les6_o3, les6_o4, les6_o5, les6_o6, les6_o7]
theorem les6 {g o n c i : Nat} {x : EnV} {sv : Value} {r : Bool} (Fin : World → Prop) (a : Act) (w : World) (Q : Exit → Act → World → Prop) (zz : a.tmps.size = 35)
    (t2 : a.tmps.getD 2 undef = sv)
    (t8 : a.tmps.getD 8 undef = .slice (some ⟨g, o, none⟩) n c)
    (t9 : a.tmps.getD 9 undef = .int .i64 (i : Int))
    (hi : i < n) (hm : n ≤ 9223372036854775807) (L1 : ∀ W, W = w → (Instr.loadAt 59 (.pointer (some ⟨g, o + 37 * i + 0, none⟩))).run Tryz.prog W = .ok (x.id.v) W) (CS : Calls Tryz.prog 23 #[sv, x.id.v] w fun e w' => e = .returned (.bool r) ∧ Fin w')
    (h : ∀ (a' : Act) (w' : World), Fin w' → a' = ((((((((a).put (some 19) (sv)).put (some 20) (.slice (some ⟨g, o, none⟩) n c)).put (some 21) (.int .i64 (i : Int))).put (some 22) (.pointer (some ⟨g, o + 37 * i, none⟩))).put (some 23) (.pointer (some ⟨g, o + 37 * i + 0, none⟩))).put (some 24) (x.id.v)).put (some 25) (.bool r)).put (some 26) (.bool (!r)) → Q .normal a' w') :
    (Code.region 6 les6_ops false).wp Tryz.prog Q a w := by
  refine z0 rfl ?_
  refine zv rfl (exec_move rfl (zi t2 rfl)) ?_
  refine zv rfl (exec_move rfl (zi t8 rfl)) ?_
  refine zv rfl (exec_move rfl (zi t9 rfl)) ?_
  refine zv rfl (exec_indexAt rfl (zg zz rfl) (zg zz rfl) (ix_en hi hm _)) ?_
  refine zv rfl (exec_fieldAt rfl (zg zz rfl) (fg_85_0 _ _ _)) ?_
  refine zv rfl (exec_load rfl (zg zz rfl) (L1 _ rfl)) ?_
  refine zc rfl (exec_c2 rfl (zg zz rfl) (zg zz rfl)) (CS) (fun e x6 hx => ?_)
  obtain ⟨rfl, HF⟩ := hx
  refine ⟨_, rfl, ?_⟩
  refine zv (v := .bool (!r)) rfl (ex_not rfl (zg zz rfl)) ?_
  exact ze rfl (h _ _ (HF) rfl)
def les7_o0 : Oper := ⟨some 27, .move (.tmp 7), 71, "ref.go:90", #[], none⟩
def les7_o1 : Oper := ⟨some 28, .move (.tmp 8), 71, "ref.go:90", #[], none⟩
def les7_o2 : Oper := ⟨some 29, .move (.tmp 9), 3, "ref.go:90", #[], none⟩
def les7_o3 : Oper := ⟨some 30, .indexAddr 71 (.tmp 28) (.tmp 29), 0, "ref.go:90", #[⟨1, .data⟩, ⟨2, .data⟩], none⟩
def les7_o4 : Oper := ⟨some 31, .load 85 (.tmp 30), 85, "ref.go:90", #[⟨3, .data⟩], none⟩
def les7_o5 : Oper := ⟨some 32, .buildSlice 71 1 #[(0, .tmp 31)], 71, "ref.go:90", #[⟨4, .data⟩], none⟩
def les7_o6 : Oper := ⟨some 33, .call { callee := Callee.builtin Builtin.append, args := #[.tmp 27, .tmp 32], argTypes := #[71, 71] }, 71, "ref.go:90", #[⟨0, .data⟩, ⟨5, .data⟩], none⟩
def les7_o7 : Oper := ⟨some 7, .assign (.tmp 33), 71, "ref.go:90", #[⟨6, .data⟩, ⟨6, .chain⟩, ⟨0, .phase⟩, ⟨1, .phase⟩, ⟨2, .phase⟩, ⟨3, .phase⟩, ⟨4, .phase⟩, ⟨5, .phase⟩, ⟨6, .phase⟩], none⟩
def les7_ops : Array Oper := #[les7_o0, les7_o1, les7_o2, les7_o3, les7_o4, les7_o5, les7_o6, les7_o7]
theorem les7 {g o n c i : Nat} {x : EnV} {ov bv ov2 : Value} {w1 w2 : World} (a : Act) (w : World) (Q : Exit → Act → World → Prop) (zz : a.tmps.size = 35)
    (t7 : a.tmps.getD 7 undef = ov)
    (t8 : a.tmps.getD 8 undef = .slice (some ⟨g, o, none⟩) n c)
    (t9 : a.tmps.getD 9 undef = .int .i64 (i : Int))
    (hi : i < n) (hm : n ≤ 9223372036854775807) (L1 : ∀ W, W = w → (Instr.loadAt 85 (.pointer (some ⟨g, o + 37 * i, none⟩))).run Tryz.prog W = .ok (x.a) W) (E1 : (Instr.buildSlice 71 1 #[(0, x.a)]).run Tryz.prog w = .ok bv w1) (E2 : (Builtin.append_ #[71, 71] 71 #[ov, bv]).run Tryz.prog w1 = .ok ov2 w2)
    (h : ∀ (a' : Act) (w' : World), w' = w2 → a' = ((((((((a).put (some 27) (ov)).put (some 28) (.slice (some ⟨g, o, none⟩) n c)).put (some 29) (.int .i64 (i : Int))).put (some 30) (.pointer (some ⟨g, o + 37 * i, none⟩))).put (some 31) (x.a)).put (some 32) (bv)).put (some 33) (ov2)).put (some 7) (ov2) → Q .normal a' w') :
    (Code.region 7 les7_ops false).wp Tryz.prog Q a w := by
  refine z0 rfl ?_
  refine zv rfl (exec_move rfl (zi t7 rfl)) ?_
  refine zv rfl (exec_move rfl (zi t8 rfl)) ?_
  refine zv rfl (exec_move rfl (zi t9 rfl)) ?_
  refine zv rfl (exec_indexAt rfl (zg zz rfl) (zg zz rfl) (ix_en hi hm _)) ?_
  refine zv rfl (exec_load rfl (zg zz rfl) (L1 _ rfl)) ?_
  refine zv (v := bv) rfl (exec_buildSlice rfl (zg zz rfl) E1) ?_
  refine zv (v := ov2) rfl (exec_append rfl (zg zz rfl) (zg zz rfl) E2) ?_
  refine zv rfl (exec_assign rfl (zg zz rfl)) ?_
  exact ze rfl (h _ _ (rfl) rfl)
structure SeenL (w : World) (sv : Value) (I : List IdK) : Prop where
  at' : ∃ a c, sv = .slice a I.length c ∧ RI.At w a I
  ok : ∀ x ∈ I, x.ok
  n : I.length ≤ 9000000000000
theorem SeenL.below {w w' : World} {sv : Value} {I : List IdK} (h : SeenL w sv I) (b : Below w.heap.size w w') : SeenL w' sv I := by
  obtain ⟨a, c, e, hat⟩ := h.at'
  exact ⟨⟨a, c, e, hat.below b⟩, h.ok, h.n⟩
theorem SeenL.saw {w : World} {sv : Value} {I : List IdK} (h : SeenL w sv I) {y : IdK} (hy : y.ok) : Calls Tryz.prog 23 #[sv, y.v] w fun e w' => e = .returned (.bool (decide (y ∈ I))) ∧ Below w.heap.size w w' := by
  obtain ⟨a, c, rfl, hat⟩ := h.at'
  exact saw_any h.ok h.n hat hy
def inL (I : List IdK) (y : EnV) : Bool := decide (y.id ∈ I)
theorem res_take_succ {sn : EnV → Bool} {L : List EnV} {i : Nat} {x : EnV} (h : L[i]? = some x) : Rg.res sn (L.take (i + 1)) = if sn x then Rg.res sn (L.take i) else Rg.res sn (L.take i) ++ [x] := by
  rw [List.take_add_one, h]
  unfold Rg.res
  rw [List.filter_append]
  by_cases hs : sn x = true
  · simp [hs]
  · simp [hs]
theorem rf_less {B : Nat} {w : World} {d : Nat} {X : Sls} {v : SlV} {pv : Value} {H : List (SlV × Sls)} (h : RfP B w d X v pv H) (hn : X.length ≤ 1100000000000) {p : PlK} (hp : p.ok) {sv : Value} {I : List IdK} (hI : SeenL w sv I) (hln : (entF X p).length ≤ 2500000000000) (hlo : ∀ x ∈ entF X p, x.ok) :
    Calls Tryz.prog 72 #[.pointer (some ⟨d, 0, none⟩), p.v, sv] w fun e w' => ∃ u, e = .returned u ∧ RN.Own w' w.heap.size u (Rg.res (inL I) (entF X p)) ∧ Below w.heap.size w w' := by
  obtain ⟨w1, E1, n1, b1⟩ := box_pl w p
  have H1 := hidMk E1
  have LP := hidMk (ld_pl hp (rng_cells n1))
  have CE := hidMk (rf_entries (h.below b1) hn hp)
  have HB := hidMk b1
  obtain ⟨L, hL⟩ : ∃ L, entF X p = L := ⟨_, rfl⟩
  rw [hL] at CE hln hlo ⊢
  obtain ⟨n, hnn⟩ : ∃ n, L.length = n := ⟨_, rfl⟩
  have HO := hidMk (And.intro hlo (And.intro hnn hI))
  rw [hnn] at hln
  clear h E1 n1 b1 hL hlo hnn hI
  go_enter Tryz.func72, Tryz.ntmps72
  go_wp2_with (first
    | (refine wpList_run rfl (exec_boxE (t := 68) (v := p.v) (u := .pointer (some ⟨w.heap.size, 0, none⟩)) (w2 := w1) rfl rfl H1.out) ?_)
    | (refine wpList_val rfl (exec_load (t := 68) (v := p.v) rfl rfl LP.out) ?_)
    | (go_at_call 52; refine CE.out.mono ?_; rintro e w2 ⟨u, rfl, ou, b2⟩; have U2 := hidMk (And.intro ou (HB.out.trans (b2.mono HB.out.size))); clear ou b2 CE)
    | fail)
  obtain ⟨ua, uc, eu, hat, _⟩ := U2.out.1.lo.open RN_is HO.out.1
  rw [HO.out.2.1] at eu
  subst eu
  have HA := hidMk hat
  have B2 := hidMk U2.out.2
  clear hat U2 H1 LP HB
  go_loopw [7, 9] (fun v7 v9 wr => ∃ i : Nat, v9 = .int .i64 (i : Int) ∧ i ≤ n ∧ Hid (∃ s : SlV, v7 = s.v ∧ RN.Own wr w2.heap.size s.v (Rg.res (inL I) (L.take i)) ∧ Below w2.heap.size w2 wr)) (fun _ v9 wr => n - (match v9 with | .int _ i => i.toNat | _ => 0))
  case atStart => exact ⟨0, rfl, Nat.zero_le _, ⟨none, 0, 0⟩, rfl, RowT.own_nil RN _ _, Below.refl _ _⟩
  case round =>
    obtain ⟨i, rfl, hin, HI⟩ := hrel
    obtain ⟨s, rfl, ho, bel⟩ := HI.out
    by_cases hi : i < n
    · obtain ⟨hlo, hnn, hI⟩ := HO.out
      obtain ⟨x, hxi⟩ : ∃ x, L[i]? = some x := ⟨_, List.getElem?_eq_getElem (by omega)⟩
      have hx : x.ok := hlo x (List.mem_of_getElem? hxi)
      obtain ⟨g, o, rfl, lg, hr⟩ : ∃ g o, ua = some ⟨g, o, none⟩ ∧ g < w2.heap.size ∧ w2.rangeAt g (o + 37 * i) x.c := by
        rcases HA.out with h | ⟨g, o, e, h1, h2⟩
        · rw [h] at hxi; cases hxi
        · exact ⟨g, o, e, h1, h2 i x hxi⟩
      have RR := hidMk (fun (W : World) (hw : Below w2.heap.size w2 W) => rangeAt_keep hr (hw.block _ lg))
      have CS : Hid (Calls Tryz.prog 23 #[sv, x.id.v] wr fun e w' => e = .returned (.bool (inL I x)) ∧ (Below w2.heap.size w2 w' ∧ RN.Own w' w2.heap.size s.v (Rg.res (inL I) (L.take i)))) := by
        have bw : Below w.heap.size w wr := B2.out.trans (bel.mono B2.out.size)
        refine ((hI.below bw).saw hx.i).mono ?_
        rintro e w' ⟨rfl, b⟩
        exact ⟨rfl, bel.trans (b.mono bel.size), ho.below b⟩
      have HX := hidMk (And.intro hxi (And.intro hx bel))
      have h63 : n ≤ 9223372036854775807 := by omega
      have hrl : (Rg.res (inL I) (L.take i)).length ≤ i := by
        have := Rg.res_len (inL I) (L.take i) 0
        have h2 : (L.take i).length ≤ i := by rw [List.length_take]; omega
        omega
      clear hr lg hlo hnn hI HI ho bel hxi
      go_upto_region 6 with fail
      refine les6 (g := g) (o := o) (n := n) (c := uc) (i := i) (x := x) (sv := sv) (r := inL I x) (fun w' => Below w2.heap.size w2 w' ∧ RN.Own w' w2.heap.size s.v (Rg.res (inL I) (L.take i))) _ wr _ rfl rfl rfl rfl hi h63 (fun W e => by rw [e]; exact en_id hx (RR.out wr HX.out.2.2)) CS.out ?_
      intro a' w3 hf ha
      subst ha
      simp only [Act.put, List.setIfInBounds_toArray, List.set_cons_zero, List.set_cons_succ]
      have H3 := hidMk hf
      clear hf CS
      by_cases hs : inL I x = true
      · have HS := hidMk hs
        rw [hs]
        clear hs
        go_wp2
        rw [show ((i : Int) + 1) = ((i + 1 : Nat) : Int) by omega]
        refine ⟨⟨i + 1, rfl, hi, s, rfl, ?_, H3.out.1⟩, ?_⟩
        · rw [res_take_succ HX.out.1, if_pos HS.out]
          exact H3.out.2
        · show n - ((i + 1 : Nat) : Int).toNat < n - (i : Int).toNat
          omega
      · have HS := hidMk hs
        rw [show inL I x = false by simpa using hs]
        clear hs
        obtain ⟨bv, w4, ov, w5, E1, E2, o5, b4, z4, g5, q5⟩ := RowT.run_push RN_is w3 w2.heap.size s.v _ x H3.out.2 hx (by unfold maxLen; omega) (by show _ * 80 ≤ _; omega) H3.out.1.size
        obtain ⟨oa, oc, eo⟩ := o5.form
        have B5 : Below w2.heap.size w2 w5 := by
          have b34 := H3.out.1.trans (b4.mono H3.out.1.size)
          exact b34.grown g5 b34.size (fun k hk => ((H3.out.2.below b4).cells hk).1)
        have NX : Hid (ov = SlV.v ⟨oa, _, oc⟩ ∧ RN.Own w5 w2.heap.size (SlV.v ⟨oa, _, oc⟩) (Rg.res (inL I) (L.take (i + 1))) ∧ Below w2.heap.size w2 w5) := ⟨eo, by
          rw [res_take_succ HX.out.1, if_neg HS.out]
          show RN.Own w5 w2.heap.size (.slice oa _ oc) _
          rw [← eo]
          exact o5, B5⟩
        have HE := hidMk (And.intro E1 E2)
        have L7 := hidMk (ld_en hx (RR.out w3 H3.out.1))
        clear E1 E2 o5 b4 z4 g5 q5 eo B5
        go_upto_region 7 with fail
        refine les7 (g := g) (o := o) (n := n) (c := uc) (i := i) (x := x) (ov := s.v) (bv := bv) (ov2 := ov) (w1 := w4) (w2 := w5) _ w3 _ rfl rfl rfl rfl hi h63 (fun W e => by rw [e]; exact L7.out) HE.out.1 HE.out.2 ?_
        intro a' w6 hf ha
        subst ha
        subst hf
        simp only [Act.put, List.setIfInBounds_toArray, List.set_cons_zero, List.set_cons_succ]
        clear HE L7 H3
        go_wp2
        rw [show ((i : Int) + 1) = ((i + 1 : Nat) : Int) by omega]
        refine ⟨⟨i + 1, rfl, hi, _, NX.out.1, NX.out.2.1, NX.out.2.2⟩, ?_⟩
        show n - ((i + 1 : Nat) : Int).toNat < n - (i : Int).toNat
        omega
    · obtain rfl : i = n := by omega
      have HR := hidMk (And.intro ho bel)
      clear ho bel HI
      go_wp2
      go_ret
      obtain ⟨ho, bel⟩ := HR.out
      rw [List.take_of_length_le (by have := HO.out.2.1; omega)] at ho
      exact ⟨s.v, rfl, ho.mono B2.out.size, B2.out.trans (bel.mono B2.out.size)⟩
def set3_o0 : Oper := ⟨some 18, .move (.tmp 0), 28, "ref.go:68", #[], none⟩
def set3_o1 : Oper := ⟨some 19, .nilCheck (.tmp 18), 0, "ref.go:68", #[⟨0, .data⟩], none⟩
def set3_o2 : Oper := ⟨some 20, .fieldAddr 95 (.tmp 19) 0, 0, "ref.go:68", #[⟨1, .data⟩], none⟩
def set3_o3 : Oper := ⟨some 21, .load 92 (.tmp 20), 92, "ref.go:68", #[⟨2, .data⟩], none⟩
def set3_o4 : Oper := ⟨some 22, .move (.tmp 6), 3, "ref.go:68", #[], none⟩
def set3_o5 : Oper := ⟨some 23, .move (.tmp 2), 71, "ref.go:68", #[], none⟩
def set3_o6 : Oper := ⟨some 24, .indexAddr 92 (.tmp 21) (.tmp 22), 0, "ref.go:68", #[⟨3, .data⟩, ⟨4, .data⟩, ⟨0, .phase⟩, ⟨1, .phase⟩, ⟨2, .phase⟩, ⟨3, .phase⟩, ⟨4, .phase⟩, ⟨5, .phase⟩], none⟩
def set3_o7 : Oper := ⟨some 25, .fieldAddr 174 (.tmp 24) 1, 0, "ref.go:68", #[⟨6, .data⟩, ⟨0, .phase⟩, ⟨1, .phase⟩, ⟨2, .phase⟩, ⟨3, .phase⟩, ⟨4, .phase⟩, ⟨5, .phase⟩], none⟩
def set3_o8 : Oper := ⟨none, .store 71 (.tmp 25) (.tmp 23), 0, "ref.go:68", #[⟨7, .data⟩, ⟨5, .data⟩, ⟨0, .phase⟩, ⟨1, .phase⟩, ⟨2, .phase⟩, ⟨3, .phase⟩, ⟨4, .phase⟩, ⟨5, .phase⟩], none⟩
def set3_ops : Array Oper := #[set3_o0, set3_o1, set3_o2, set3_o3, set3_o4, set3_o5, set3_o6, set3_o7, set3_o8]
theorem set3 {d g o n c i : Nat} {lv : Value} {w1 : World} (a : Act) (w : World) (Q : Exit → Act → World → Prop) (zz : a.tmps.size = 64)
    (t0 : a.tmps.getD 0 undef = .pointer (some ⟨d, 0, none⟩))
    (t2 : a.tmps.getD 2 undef = lv)
    (t6 : a.tmps.getD 6 undef = .int .i64 (i : Int))
    (hi : i < n) (hm : n ≤ 9223372036854775807) (L1 : ∀ W, W = w → (Instr.loadAt 92 (.pointer (some ⟨d, 0 + 0, none⟩))).run Tryz.prog W = .ok (.slice (some ⟨g, o, none⟩) n c) W) (ES : (Instr.storeAt 71 (.pointer (some ⟨g, o + 68 * i + 67, none⟩)) lv).run Tryz.prog w = .ok () w1)
    (h : ∀ (a' : Act) (w' : World), w' = w1 → a' = ((((((((a).put (some 18) (.pointer (some ⟨d, 0, none⟩))).put (some 19) (.pointer (some ⟨d, 0, none⟩))).put (some 20) (.pointer (some ⟨d, 0 + 0, none⟩))).put (some 21) (.slice (some ⟨g, o, none⟩) n c)).put (some 22) (.int .i64 (i : Int))).put (some 23) (lv)).put (some 24) (.pointer (some ⟨g, o + 68 * i, none⟩))).put (some 25) (.pointer (some ⟨g, o + 68 * i + 67, none⟩)) → Q .normal a' w') :
    (Code.region 3 set3_ops false).wp Tryz.prog Q a w := by
  refine z0 rfl ?_
  refine zv rfl (exec_move rfl (zi t0 rfl)) ?_
  refine zv rfl (exec_nilCheck rfl (zg zz rfl)) ?_
  refine zv rfl (exec_fieldAt rfl (zg zz rfl) (fg_95_0 _ _ _)) ?_
  refine zv rfl (exec_load rfl (zg zz rfl) (L1 _ rfl)) ?_
  refine zv rfl (exec_move rfl (zi t6 rfl)) ?_
  refine zv rfl (exec_move rfl (zi t2 rfl)) ?_
  refine zv rfl (exec_indexAt rfl (zg zz rfl) (zg zz rfl) (ix_sl hi hm _)) ?_
  refine zv rfl (exec_fieldAt rfl (zg zz rfl) (fg_174_1 _ _ _)) ?_
  refine zs rfl (exec_store rfl (zg zz rfl) (zg zz rfl) ES) ?_
  exact ze rfl (h _ _ (rfl) rfl)
def set7_o0 : Oper := ⟨some 52, .move (.tmp 0), 28, "ref.go:72", #[], none⟩
def set7_o1 : Oper := ⟨some 53, .move (.tmp 0), 28, "ref.go:72", #[], none⟩
def set7_o2 : Oper := ⟨some 54, .nilCheck (.tmp 53), 0, "ref.go:72", #[⟨1, .data⟩], none⟩
def set7_o3 : Oper := ⟨some 55, .fieldAddr 95 (.tmp 54) 0, 0, "ref.go:72", #[⟨2, .data⟩], none⟩
def set7_o4 : Oper := ⟨some 56, .load 92 (.tmp 55), 92, "ref.go:72", #[⟨3, .data⟩], none⟩
def set7_o5 : Oper := ⟨some 57, .load 68 (.tmp 4), 68, "ref.go:72", #[], none⟩
def set7_o6 : Oper := ⟨some 58, .move (.tmp 2), 71, "ref.go:72", #[], none⟩
def set7_o7 : Oper := ⟨some 59, .build 174 #[(0, .tmp 57), (1, .tmp 58)], 174, "ref.go:72", #[⟨5, .data⟩, ⟨6, .data⟩], none⟩
def set7_o8 : Oper := ⟨some 60, .buildSlice 92 1 #[(0, .tmp 59)], 92, "ref.go:72", #[⟨7, .data⟩], none⟩
def set7_o9 : Oper := ⟨some 61, .call { callee := Callee.builtin Builtin.append, args := #[.tmp 56, .tmp 60], argTypes := #[92, 92] }, 92, "ref.go:72", #[⟨4, .data⟩, ⟨8, .data⟩], none⟩
def set7_o10 : Oper := ⟨some 62, .nilCheck (.tmp 52), 0, "ref.go:72", #[⟨0, .data⟩, ⟨0, .phase⟩, ⟨1, .phase⟩, ⟨2, .phase⟩, ⟨3, .phase⟩, ⟨4, .phase⟩, ⟨5, .phase⟩, ⟨6, .phase⟩, ⟨7, .phase⟩, ⟨8, .phase⟩, ⟨9, .phase⟩], none⟩
def set7_o11 : Oper := ⟨some 63, .fieldAddr 95 (.tmp 62) 0, 0, "ref.go:72", #[⟨10, .data⟩, ⟨0, .phase⟩, ⟨1, .phase⟩, ⟨2, .phase⟩, ⟨3, .phase⟩, ⟨4, .phase⟩, ⟨5, .phase⟩, ⟨6, .phase⟩, ⟨7, .phase⟩, ⟨8, .phase⟩, ⟨9, .phase⟩], none⟩
def set7_o12 : Oper := ⟨none, .store 92 (.tmp 63) (.tmp 61), 0, "ref.go:72", #[⟨11, .data⟩, ⟨9, .data⟩, ⟨9, .chain⟩, ⟨0, .phase⟩, ⟨1, .phase⟩, ⟨2, .phase⟩, ⟨3, .phase⟩, ⟨4, .phase⟩, ⟨5, .phase⟩, ⟨6, .phase⟩, ⟨7, .phase⟩, ⟨8, .phase⟩, ⟨9, .phase⟩], none⟩
def set7_ops : Array Oper := #[set7_o0, set7_o1, set7_o2, set7_o3, set7_o4, set7_o5, set7_o6, set7_o7, set7_o8, set7_o9, set7_o10, set7_o11, set7_o12]
theorem set7 {d pb en ec : Nat} {ea : Option Addr} {p : PlK} {sv bv sv2 : Value} {w1 w2 w3 : World} (S : World → Prop) (a : Act) (w : World) (Q : Exit → Act → World → Prop) (zz : a.tmps.size = 64)
    (t0 : a.tmps.getD 0 undef = .pointer (some ⟨d, 0, none⟩))
    (t2 : a.tmps.getD 2 undef = .slice ea en ec)
    (t4 : a.tmps.getD 4 undef = .pointer (some ⟨pb, 0, none⟩))
    (hp : p.ok) (h0 : S w.drew) (L1 : ∀ W, S W → (Instr.loadAt 92 (.pointer (some ⟨d, 0 + 0, none⟩))).run Tryz.prog W = .ok (sv) W) (L2 : ∀ W, S W → (Instr.loadAt 68 (.pointer (some ⟨pb, 0, none⟩))).run Tryz.prog W = .ok (p.v) W) (E1 : (Instr.buildSlice 92 1 #[(0, .agg (p.c ++ [Value.slice ea en ec]).toArray)]).run Tryz.prog w.drew = .ok bv w1) (S1 : S w1) (E2 : (Builtin.append_ #[92, 92] 92 #[sv, bv]).run Tryz.prog w1 = .ok sv2 w2) (S2 : S w2) (E3 : (Instr.storeAt 92 (.pointer (some ⟨d, 0 + 0, none⟩)) sv2).run Tryz.prog w2 = .ok () w3)
    (h : ∀ (a' : Act) (w' : World), w' = w3 → a' = ((((((((((((a).put (some 52) (.pointer (some ⟨d, 0, none⟩))).put (some 53) (.pointer (some ⟨d, 0, none⟩))).put (some 54) (.pointer (some ⟨d, 0, none⟩))).put (some 55) (.pointer (some ⟨d, 0 + 0, none⟩))).put (some 56) (sv)).put (some 57) (p.v)).put (some 58) (.slice ea en ec)).put (some 59) (.agg (p.c ++ [Value.slice ea en ec]).toArray)).put (some 60) (bv)).put (some 61) (sv2)).put (some 62) (.pointer (some ⟨d, 0, none⟩))).put (some 63) (.pointer (some ⟨d, 0 + 0, none⟩)) → Q .normal a' w') :
    (Code.region 7 set7_ops true).wp Tryz.prog Q a w := by
  refine x0 12 (fun w' => S w') (h0) (fun hHeld => ?_)
  refine xv 0 rfl rfl (fun w1 hw => exec_move rfl (zi t0 rfl)) hHeld ?_
  refine xv 1 rfl rfl (fun w1 hw => exec_move rfl (zi t0 rfl)) hHeld ?_
  refine xv 2 rfl rfl (fun w1 hw => exec_nilCheck rfl (zg zz rfl)) hHeld ?_
  refine xv 3 rfl rfl (fun w1 hw => exec_fieldAt rfl (zg zz rfl) (fg_95_0 _ _ _)) hHeld ?_
  refine xv 4 rfl rfl (fun w1 hw => exec_load rfl (zg zz rfl) (L1 _ hw)) hHeld ?_
  refine xv 5 rfl rfl (fun w1 hw => exec_load rfl (zi t4 rfl) (L2 _ hw)) hHeld ?_
  refine xv 6 rfl rfl (fun w1 hw => exec_move rfl (zi t2 rfl)) hHeld ?_
  refine xv (v := .agg (p.c ++ [Value.slice ea en ec]).toArray) 7 rfl rfl (fun w1 hw => exec_bsl hp rfl (zg zz rfl) (zg zz rfl)) hHeld ?_
  refine xr (v := bv) 8 rfl rfl (exec_buildSlice rfl (zg zz rfl) E1) (fun _ => S1) (fun hHeld => ?_)
  replace hHeld := hHeld (by decide)
  refine xr (v := sv2) 9 rfl rfl (exec_append rfl (zg zz rfl) (zg zz rfl) E2) (fun _ => S2) (fun hHeld => ?_)
  replace hHeld := hHeld (by decide)
  refine xv 10 rfl rfl (fun w1 hw => exec_nilCheck rfl (zg zz rfl)) hHeld ?_
  refine xv 11 rfl rfl (fun w1 hw => exec_fieldAt rfl (zg zz rfl) (fg_95_0 _ _ _)) hHeld ?_
  refine xs 12 rfl rfl (exec_store rfl (zg zz rfl) (zg zz rfl) E3) (fun hne => absurd rfl hne) (fun _ => ?_)
  exact xe rfl (h _ _ (rfl) rfl)
def set5_o0 : Oper := ⟨some 29, .move (.tmp 0), 28, "ref.go:70", #[], none⟩
def set5_o1 : Oper := ⟨some 30, .buildSlice 92 0 #[], 92, "ref.go:70", #[], none⟩
def set5_o2 : Oper := ⟨some 31, .move (.tmp 0), 28, "ref.go:70", #[], none⟩
def set5_o3 : Oper := ⟨some 32, .nilCheck (.tmp 31), 0, "ref.go:70", #[⟨2, .data⟩], none⟩
def set5_o4 : Oper := ⟨some 33, .fieldAddr 95 (.tmp 32) 0, 0, "ref.go:70", #[⟨3, .data⟩], none⟩
def set5_o5 : Oper := ⟨some 34, .load 92 (.tmp 33), 92, "ref.go:70", #[⟨4, .data⟩], none⟩
def set5_o6 : Oper := ⟨some 35, .move (.tmp 6), 3, "ref.go:70", #[], none⟩
def set5_o7 : Oper := ⟨some 36, .slice 92 (.tmp 34) none (some (.tmp 35)) none, 92, "ref.go:70", #[⟨5, .data⟩, ⟨6, .data⟩], none⟩
def set5_o8 : Oper := ⟨some 37, .call { callee := Callee.builtin Builtin.append, args := #[.tmp 30, .tmp 36], argTypes := #[92, 92] }, 92, "ref.go:70", #[⟨1, .data⟩, ⟨7, .data⟩], none⟩
def set5_o9 : Oper := ⟨some 38, .move (.tmp 0), 28, "ref.go:70", #[], none⟩
def set5_o10 : Oper := ⟨some 39, .nilCheck (.tmp 38), 0, "ref.go:70", #[⟨9, .data⟩], none⟩
def set5_o11 : Oper := ⟨some 40, .fieldAddr 95 (.tmp 39) 0, 0, "ref.go:70", #[⟨10, .data⟩], none⟩
def set5_o12 : Oper := ⟨some 41, .load 92 (.tmp 40), 92, "ref.go:70", #[⟨11, .data⟩], none⟩
def set5_o13 : Oper := ⟨some 42, .move (.tmp 6), 3, "ref.go:70", #[], none⟩
def set5_o14 : Oper := ⟨some 43, .binOp BinOp.add 3 (.tmp 42) (Operand.const (Value.int IntKind.i64 1)) 3, 3, "ref.go:70", #[⟨13, .data⟩], none⟩
def set5_o15 : Oper := ⟨some 44, .slice 92 (.tmp 41) (some (.tmp 43)) none none, 92, "ref.go:70", #[⟨12, .data⟩, ⟨14, .data⟩], none⟩
def set5_o16 : Oper := ⟨some 45, .call { callee := Callee.builtin Builtin.append, args := #[.tmp 37, .tmp 44], argTypes := #[92, 92] }, 92, "ref.go:70", #[⟨8, .data⟩, ⟨15, .data⟩, ⟨8, .chain⟩], none⟩
def set5_o17 : Oper := ⟨some 46, .nilCheck (.tmp 29), 0, "ref.go:70", #[⟨0, .data⟩, ⟨0, .phase⟩, ⟨1, .phase⟩, ⟨2, .phase⟩, ⟨3, .phase⟩, ⟨4, .phase⟩, ⟨5, .phase⟩, ⟨6, .phase⟩, ⟨7, .phase⟩, ⟨8, .phase⟩, ⟨9, .phase⟩, ⟨10, .phase⟩, ⟨11, .phase⟩, ⟨12, .phase⟩, ⟨13, .phase⟩, ⟨14, .phase⟩, ⟨15, .phase⟩, ⟨16, .phase⟩], none⟩
def set5_o18 : Oper := ⟨some 47, .fieldAddr 95 (.tmp 46) 0, 0, "ref.go:70", #[⟨17, .data⟩, ⟨0, .phase⟩, ⟨1, .phase⟩, ⟨2, .phase⟩, ⟨3, .phase⟩, ⟨4, .phase⟩, ⟨5, .phase⟩, ⟨6, .phase⟩, ⟨7, .phase⟩, ⟨8, .phase⟩, ⟨9, .phase⟩, ⟨10, .phase⟩, ⟨11, .phase⟩, ⟨12, .phase⟩, ⟨13, .phase⟩, ⟨14, .phase⟩, ⟨15, .phase⟩, ⟨16, .phase⟩], none⟩
def set5_o19 : Oper := ⟨none, .store 92 (.tmp 47) (.tmp 45), 0, "ref.go:70", #[⟨18, .data⟩, ⟨16, .data⟩, ⟨16, .chain⟩, ⟨0, .phase⟩, ⟨1, .phase⟩, ⟨2, .phase⟩, ⟨3, .phase⟩, ⟨4, .phase⟩, ⟨5, .phase⟩, ⟨6, .phase⟩, ⟨7, .phase⟩, ⟨8, .phase⟩, ⟨9, .phase⟩, ⟨10, .phase⟩, ⟨11, .phase⟩, ⟨12, .phase⟩, ⟨13, .phase⟩, ⟨14, .phase⟩, ⟨15, .phase⟩, ⟨16, .phase⟩], none⟩
def set5_ops : Array Oper := #[set5_o0, set5_o1, set5_o2, set5_o3, set5_o4, set5_o5, set5_o6, set5_o7, set5_o8, set5_o9, set5_o10, set5_o11, set5_o12, set5_o13, set5_o14, set5_o15, set5_o16, set5_o17, set5_o18, set5_o19]
theorem set5 {d i j : Nat} {sv av zv e0 u1 sv2 : Value} {w0 w1 w2 w3 : World} (S : World → Prop) (a : Act) (w : World) (Q : Exit → Act → World → Prop) (zz : a.tmps.size = 64)
    (t0 : a.tmps.getD 0 undef = .pointer (some ⟨d, 0, none⟩))
    (t6 : a.tmps.getD 6 undef = .int .i64 (i : Int))
    (hj : i + 1 = j) (hm2 : i ≤ 9223372036854775800) (h0 : S w.drew) (L1 : ∀ W, S W → (Instr.loadAt 92 (.pointer (some ⟨d, 0 + 0, none⟩))).run Tryz.prog W = .ok (sv) W) (SA : ∀ W, (Instr.sliceAt 92 sv none (some (.int .i64 (i : Int))) none).run Tryz.prog W = .ok av W) (SZ : ∀ W, (Instr.sliceAt 92 sv (some (.int .i64 (j : Int))) none none).run Tryz.prog W = .ok zv W) (E0 : (Instr.buildSlice 92 0 #[]).run Tryz.prog w.drew = .ok e0 w0) (S0 : S w0) (E1 : (Builtin.append_ #[92, 92] 92 #[e0, av]).run Tryz.prog w0 = .ok u1 w1) (S1 : S w1) (E2 : (Builtin.append_ #[92, 92] 92 #[u1, zv]).run Tryz.prog w1 = .ok sv2 w2) (S2 : S w2) (E3 : (Instr.storeAt 92 (.pointer (some ⟨d, 0 + 0, none⟩)) sv2).run Tryz.prog w2 = .ok () w3)
    (h : ∀ (a' : Act) (w' : World), w' = w3 → a' = (((((((((((((((((((a).put (some 29) (.pointer (some ⟨d, 0, none⟩))).put (some 31) (.pointer (some ⟨d, 0, none⟩))).put (some 32) (.pointer (some ⟨d, 0, none⟩))).put (some 33) (.pointer (some ⟨d, 0 + 0, none⟩))).put (some 34) (sv)).put (some 35) (.int .i64 (i : Int))).put (some 36) (av)).put (some 38) (.pointer (some ⟨d, 0, none⟩))).put (some 39) (.pointer (some ⟨d, 0, none⟩))).put (some 40) (.pointer (some ⟨d, 0 + 0, none⟩))).put (some 41) (sv)).put (some 42) (.int .i64 (i : Int))).put (some 43) (.int .i64 (j : Int))).put (some 44) (zv)).put (some 30) (e0)).put (some 37) (u1)).put (some 45) (sv2)).put (some 46) (.pointer (some ⟨d, 0, none⟩))).put (some 47) (.pointer (some ⟨d, 0 + 0, none⟩)) → Q .normal a' w') :
    (Code.region 5 set5_ops true).wp Tryz.prog Q a w := by
  refine x0 19 (fun w' => S w') (h0) (fun hHeld => ?_)
  refine xv 0 rfl rfl (fun w1 hw => exec_move rfl (zi t0 rfl)) hHeld ?_
  refine xv 2 rfl rfl (fun w1 hw => exec_move rfl (zi t0 rfl)) hHeld ?_
  refine xv 3 rfl rfl (fun w1 hw => exec_nilCheck rfl (zg zz rfl)) hHeld ?_
  refine xv 4 rfl rfl (fun w1 hw => exec_fieldAt rfl (zg zz rfl) (fg_95_0 _ _ _)) hHeld ?_
  refine xv 5 rfl rfl (fun w1 hw => exec_load rfl (zg zz rfl) (L1 _ hw)) hHeld ?_
  refine xv 6 rfl rfl (fun w1 hw => exec_move rfl (zi t6 rfl)) hHeld ?_
  refine xv (v := av) 7 rfl rfl (fun w1 hw => exec_sl0 rfl (zg zz rfl) (zg zz rfl) (SA _)) hHeld ?_
  refine xv 9 rfl rfl (fun w1 hw => exec_move rfl (zi t0 rfl)) hHeld ?_
  refine xv 10 rfl rfl (fun w1 hw => exec_nilCheck rfl (zg zz rfl)) hHeld ?_
  refine xv 11 rfl rfl (fun w1 hw => exec_fieldAt rfl (zg zz rfl) (fg_95_0 _ _ _)) hHeld ?_
  refine xv 12 rfl rfl (fun w1 hw => exec_load rfl (zg zz rfl) (L1 _ hw)) hHeld ?_
  refine xv 13 rfl rfl (fun w1 hw => exec_move rfl (zi t6 rfl)) hHeld ?_
  refine xv (v := .int .i64 (j : Int)) 14 rfl rfl (fun w1 hw => exec_addi rfl (zg zz rfl) rfl hj hm2) hHeld ?_
  refine xv (v := zv) 15 rfl rfl (fun w1 hw => exec_sl1 rfl (zg zz rfl) (zg zz rfl) (SZ _)) hHeld ?_
  refine xr (v := e0) 1 rfl rfl (exec_bs0 rfl E0) (fun _ => S0) (fun hHeld => ?_)
  replace hHeld := hHeld (by decide)
  refine xr (v := u1) 8 rfl rfl (exec_append rfl (zg zz rfl) (zg zz rfl) E1) (fun _ => S1) (fun hHeld => ?_)
  replace hHeld := hHeld (by decide)
  refine xr (v := sv2) 16 rfl rfl (exec_append rfl (zg zz rfl) (zg zz rfl) E2) (fun _ => S2) (fun hHeld => ?_)
  replace hHeld := hHeld (by decide)
  refine xv 17 rfl rfl (fun w1 hw => exec_nilCheck rfl (zg zz rfl)) hHeld ?_
  refine xv 18 rfl rfl (fun w1 hw => exec_fieldAt rfl (zg zz rfl) (fg_95_0 _ _ _)) hHeld ?_
  refine xs 19 rfl rfl (exec_store rfl (zg zz rfl) (zg zz rfl) E3) (fun hne => absurd rfl hne) (fun _ => ?_)
  exact xe rfl (h _ _ (rfl) rfl)
section
variable {B : Nat} {w w' : World} {d : Nat} {X : Sls} {v : SlV} {pv : Value} {H : List (SlV × Sls)}
theorem two_types {j : Nat} {c1 c2 : Array Value} {t1 t2 : TypeId} {f1 f2 : Nat × Nat} (h1 : w.heap[j]? = some (.cells c1 t1 f1)) (h2 : w.heap[j]? = some (.cells c2 t2 f2)) : t1 = t2 := by
  rw [h1] at h2
  injection h2 with h2
  injection h2 with _ h2 _
theorem RfP.upd (h : RfP B w d X v pv H) {X' : Sls} {v' : SlV} (hc : w'.heap[d]? = some (.cells #[v'.v, pv] 95 (0, 0))) (ho : RT.Own w' B v'.v X'.row) (he : SlsAt w' B X') (hk : SlOk X') (t : Tch (fun j => j = d ∨ v.v.ownBlock = some j) w w') (hv : v'.v.ownBlock = v.v.ownBlock ∨ ∀ j, v'.v.ownBlock = some j → w.heap.size ≤ j) : RfP B w' d X' v' pv H := by
  have hE : ∀ j c, w.heap[j]? = some (.cells c 85 (0, 0)) → ¬ (j = d ∨ v.v.ownBlock = some j) := fun j c hj e => by
    rcases e with e | e
    · subst e
      have := two_types hj h.cell
      revert this; decide
    · obtain ⟨_, c2, h2⟩ := h.sl.cells e
      have := two_types hj h2
      revert this; decide
  refine ⟨hc, ho, he, h.past.keep fun j hj => ?_, fun q hq => ⟨(h.ph q hq).1.keep fun j hj => ?_, (h.ph q hq).2.1.keep t hE, (h.ph q hq).2.2⟩, h.dB, fun q hq j hj e => ?_, h.ap2, hk⟩
  · obtain ⟨_, c, hcc⟩ := h.past.ge j hj
    refine t.block j (Array.getElem?_eq_some_iff.1 hcc).1 (fun e => ?_)
    rcases e with e | e
    · subst e
      have := two_types hcc h.cell
      revert this; decide
    · obtain ⟨_, c2, h2⟩ := h.sl.cells e
      have := two_types hcc h2
      revert this; decide
  · obtain ⟨_, c, hcc⟩ := (h.ph q hq).1.cells hj
    refine t.block j (Array.getElem?_eq_some_iff.1 hcc).1 (fun e => ?_)
    rcases e with e | e
    · subst e
      have := two_types hcc h.cell
      revert this; decide
    · exact h.ap q hq j hj e
  · rcases hv with hv | hv
    · exact h.ap q hq j hj (hv ▸ e)
    · have := hv j e
      have := (h.ph q hq).1.lt hj
      omega
end
theorem ent_of_mem {X : Sls} (hk : SlOk X) {q : (PlK × SlV) × List EnV} (hq : q ∈ X) : entF X q.1.1 = q.2 := by
  unfold entF
  obtain ⟨r, hr⟩ : ∃ r, X.find? (fun z => decide (z.1.1 = q.1.1)) = some r := by
    cases e : X.find? (fun z => decide (z.1.1 = q.1.1)) with
    | none => exact absurd (List.find?_eq_none.1 e q hq) (by simp)
    | some r => exact ⟨r, rfl⟩
  have h1 : r.1.1 = q.1.1 := by simpa using List.find?_some hr
  have h2 := List.mem_of_find?_eq_some hr
  have := nodup_injG (·.1.1) hk.nd r h2 q hq h1
  rw [hr, this]
  rfl
theorem ent_none {X : Sls} {p : PlK} (h : ∀ q ∈ X, q.1.1 ≠ p) : entF X p = [] := by
  unfold entF
  rw [List.find?_eq_none.2 (fun q hq => by simpa using h q hq)]
  rfl
theorem ent_set {X : Sls} (hk : SlOk X) {i : Nat} {q : (PlK × SlV) × List EnV} (hq : X[i]? = some q) {s : SlV} {L : List EnV} (hL : L ≠ []) : SlOk (X.set i ((q.1.1, s), L)) ∧ ∀ r, entF (X.set i ((q.1.1, s), L)) r = if r = q.1.1 then L else entF X r := by
  have hi := (List.getElem?_eq_some_iff.1 hq).1
  have hm : (X.set i ((q.1.1, s), L)).map (·.1.1) = X.map (·.1.1) := by
    rw [List.map_set]
    apply List.ext_getElem?
    intro j
    rw [List.getElem?_set]
    split
    · next e => subst e; rw [List.getElem?_map, hq]; simp [hi]
    · rfl
  have hk' : SlOk (X.set i ((q.1.1, s), L)) := ⟨by rw [hm]; exact hk.nd, fun z hz => by
    rcases List.mem_or_eq_of_mem_set hz with h | h
    · exact hk.ne z h
    · rw [h]; exact hL⟩
  refine ⟨hk', fun r => ?_⟩
  by_cases e : r = q.1.1
  · rw [if_pos e, e]
    exact ent_of_mem hk' (q := ((q.1.1, s), L)) (List.mem_set hi _)
  · rw [if_neg e]
    by_cases h : ∃ z ∈ X, z.1.1 = r
    · obtain ⟨z, hz, rfl⟩ := h
      rw [ent_of_mem hk hz]
      obtain ⟨j, hj⟩ := List.getElem?_of_mem hz
      have hne : i ≠ j := fun e2 => by subst e2; rw [hq] at hj; cases hj; exact e rfl
      refine ent_of_mem hk' (List.mem_of_getElem? (i := j) ?_)
      rw [List.getElem?_set, if_neg hne]
      exact hj
    · have h' : ∀ z ∈ X, z.1.1 ≠ r := fun z hz e2 => h ⟨z, hz, e2⟩
      rw [ent_none h', ent_none (fun z hz => by
        rcases List.mem_or_eq_of_mem_set hz with h2 | h2
        · exact h' z h2
        · rw [h2]; exact fun e2 => e e2.symm)]
theorem ent_snoc {X : Sls} (hk : SlOk X) {p : PlK} (hp : ∀ z ∈ X, z.1.1 ≠ p) {s : SlV} {L : List EnV} (hL : L ≠ []) : SlOk (X ++ [((p, s), L)]) ∧ ∀ r, entF (X ++ [((p, s), L)]) r = if r = p then L else entF X r := by
  have hk' : SlOk (X ++ [((p, s), L)]) := ⟨by
    rw [List.map_append, List.nodup_append]
    refine ⟨hk.nd, by simp, fun a ha b hb => ?_⟩
    obtain ⟨z, hz, rfl⟩ := List.mem_map.1 ha
    simp at hb
    subst hb
    exact hp z hz, fun z hz => by
    rcases List.mem_append.1 hz with h | h
    · exact hk.ne z h
    · rw [List.mem_singleton.1 h]; exact hL⟩
  refine ⟨hk', fun r => ?_⟩
  by_cases e : r = p
  · rw [if_pos e, e]
    exact ent_of_mem hk' (q := ((p, s), L)) (by simp)
  · rw [if_neg e]
    by_cases h : ∃ z ∈ X, z.1.1 = r
    · obtain ⟨z, hz, rfl⟩ := h
      rw [ent_of_mem hk hz]
      exact ent_of_mem hk' (by simp [hz])
    · have h' : ∀ z ∈ X, z.1.1 ≠ r := fun z hz e2 => h ⟨z, hz, e2⟩
      rw [ent_none h', ent_none (fun z hz => by
        rcases List.mem_append.1 hz with h2 | h2
        · exact h' z h2
        · rw [List.mem_singleton.1 h2]; exact fun e2 => e e2.symm)]
theorem ent_erase {X : Sls} (hk : SlOk X) {i : Nat} {q : (PlK × SlV) × List EnV} (hq : X[i]? = some q) : SlOk (X.take i ++ X.drop (i + 1)) ∧ ∀ r, entF (X.take i ++ X.drop (i + 1)) r = if r = q.1.1 then [] else entF X r := by
  have hi := (List.getElem?_eq_some_iff.1 hq).1
  have hX : X = X.take i ++ q :: X.drop (i + 1) := by
    conv => lhs; rw [← List.take_append_drop i X]
    rw [List.drop_eq_getElem_cons hi, (List.getElem?_eq_some_iff.1 hq).2]
  have hsub : (X.take i ++ X.drop (i + 1)).Sublist X := by
    conv => rhs; rw [hX]
    exact List.Sublist.append (List.Sublist.refl _) (List.sublist_cons_self _ _)
  have hk' : SlOk (X.take i ++ X.drop (i + 1)) := ⟨hk.nd.sublist (hsub.map _), fun z hz => hk.ne z (hsub.subset hz)⟩
  have hno : ∀ z ∈ X.take i ++ X.drop (i + 1), z.1.1 ≠ q.1.1 := fun z hz e => by
    have hnd := hk.nd
    rw [hX, List.map_append, List.map_cons, List.nodup_append] at hnd
    obtain ⟨h1, h2, h3⟩ := hnd
    rcases List.mem_append.1 hz with h | h
    · exact h3 z.1.1 (List.mem_map.2 ⟨z, h, rfl⟩) q.1.1 (by simp) e
    · have := (List.nodup_cons.1 h2).1
      exact this (List.mem_map.2 ⟨z, h, e⟩)
  refine ⟨hk', fun r => ?_⟩
  by_cases e : r = q.1.1
  · rw [if_pos e, e]
    exact ent_none hno
  · rw [if_neg e]
    by_cases h : ∃ z ∈ X, z.1.1 = r
    · obtain ⟨z, hz, rfl⟩ := h
      rw [ent_of_mem hk hz]
      refine ent_of_mem hk' ?_
      rw [hX] at hz
      rcases List.mem_append.1 hz with h | h
      · exact List.mem_append.2 (.inl h)
      · rcases List.mem_cons.1 h with h | h
        · exact absurd (by rw [h]) e
        · exact List.mem_append.2 (.inr h)
    · have h' : ∀ z ∈ X, z.1.1 ≠ r := fun z hz e2 => h ⟨z, hz, e2⟩
      rw [ent_none h', ent_none (fun z hz => h' z (hsub.subset hz))]
def SetE (B : Nat) (w : World) (d : Nat) (X : Sls) (v : SlV) (pv : Value) (H : List (SlV × Sls)) (p : PlK) (L : List EnV) (lo : Value) (w' : World) : Prop := ∃ (X' : Sls) (v' : SlV), RfP B w' d X' v' pv H ∧ (∀ r, entF X' r = if r = p then L else entF X r) ∧ X'.length ≤ X.length + 1 ∧ Tch (fun j => j = d ∨ v.v.ownBlock = some j) w w' ∧ (v'.v.ownBlock = v.v.ownBlock ∨ ∀ j, v'.v.ownBlock = some j → w.heap.size ≤ j) ∧ ∀ z ∈ X', z ∈ X ∨ z.1.2.v = lo
section
variable {B : Nat} {w : World} {d : Nat} {X : Sls} {v : SlV} {pv : Value} {H : List (SlV × Sls)} {p : PlK} {L : List EnV} {lv : SlV}
theorem set_in (h : RfP B w d X v pv H) {i : Nat} {q : (PlK × SlV) × List EnV} (hq : X[i]? = some q) (hl : RN.Lo w B lv.v L) (okL : ∀ x ∈ L, x.ok) (hln : L.length ≤ 2500000000000) (hne : L ≠ []) :
    ∃ g c w', v.v = .slice (some ⟨g, 0, none⟩) X.length c ∧ (Instr.storeAt 71 (.pointer (some ⟨g, 0 + 68 * i + 67, none⟩)) lv.v).run Tryz.prog w = .ok () w' ∧ SetE B w d X v pv H q.1.1 L lv.v w' := by
  obtain ⟨hlo, hqo, hqx, hqn⟩ := h.en q (List.mem_of_getElem? hq)
  have hlen : q.1.1.c.length = 67 := PlK.len hqo
  obtain ⟨g, c, ev, lg, w', es, o', t', z'⟩ := RowT.own_seg RT_is h.sl (Sls.row_ok h.en) (i := i) (y := q.1) (x := (q.1.1, lv)) (by rw [Sls.row, List.getElem?_map, hq]; rfl) hqo (q := 67) (n := 1) [lv.v] rfl (by
    show q.1.1.c ++ [lv.v] = (q.1.1.c ++ [q.1.2.v]).take 67 ++ [lv.v] ++ (q.1.1.c ++ [q.1.2.v]).drop (67 + 1)
    rw [← hlen, List.take_left, List.drop_of_length_le (by simp), List.append_nil]) (by decide) (fun u hu => by rw [List.mem_singleton.1 hu]; rfl) (t := 71) (v := lv.v) (by kernel_rfl) rfl
  rw [show X.row.length = X.length by simp [Sls.row]] at ev
  have tt : Tch (fun j => j = d ∨ v.v.ownBlock = some j) w w' := t'.mono (fun j _ e => .inr e)
  obtain ⟨hk', he'⟩ := ent_set h.ok hq (s := lv) hne
  have hvd : ¬ v.v.ownBlock = some d := fun e => by
    obtain ⟨_, c2, h2⟩ := h.sl.cells e
    have := two_types h2 h.cell
    revert this; decide
  have hE : ∀ j c, w.heap[j]? = some (.cells c 85 (0, 0)) → ¬ v.v.ownBlock = some j := fun j c hj e => by
    obtain ⟨_, c2, h2⟩ := h.sl.cells e
    have := two_types hj h2
    revert this; decide
  refine ⟨g, c, w', ev, by rw [Nat.zero_add]; exact es, X.set i ((q.1.1, lv), L), v, h.upd ((t'.block d (Array.getElem?_eq_some_iff.1 h.cell).1 hvd).trans h.cell) ?_ ?_ hk' tt (.inl rfl), he', by rw [List.length_set]; omega, tt, .inl rfl, fun z hz => (List.mem_or_eq_of_mem_set hz).imp id (fun e => by rw [e])⟩
  · have : Sls.row (X.set i ((q.1.1, lv), L)) = X.row.set i (q.1.1, lv) := by simp [Sls.row, List.map_set]
    rw [this]
    exact o'
  · intro z hz
    have kk : ∀ {u : Value} {M : List EnV}, RN.Lo w B u M → RN.Lo w' B u M := fun hu => hu.keep (fun k hk => by
      obtain ⟨_, c2, h2⟩ := hu.cells hk
      exact t'.block k (hu.lt hk) (hE k c2 h2))
    rcases List.mem_or_eq_of_mem_set hz with h2 | h2
    · exact ⟨kk (h.en z h2).1, (h.en z h2).2⟩
    · rw [h2]; exact ⟨kk hl, hqo, okL, hln⟩
theorem st_slots {w : World} {d : Nat} {a : Value} {sv : SlV} {pv : Value} (h : w.heap[d]? = some (.cells #[a, pv] 95 (0, 0))) (ha : ∃ s : SlV, a = s.v) : ∃ w', (Instr.storeAt 92 (.pointer (some ⟨d, 0 + 0, none⟩)) sv.v).run Tryz.prog w = .ok () w' ∧ w'.heap[d]? = some (.cells #[sv.v, pv] 95 (0, 0)) ∧ Tch (fun j => j = d) w w' := by
  obtain ⟨s, rfl⟩ := ha
  have c0 : w.cell? ⟨d, 0, none⟩ = some (.slice s.a s.n s.c) := (cell_of_row w d 0 _ _ _ h).trans rfl
  have f0 := frozen_of_row w d 0 _ _ h
  refine ⟨w.setCell ⟨d, 0, none⟩ (.slice sv.a sv.n sv.c), ?_, ?_, ⟨rfl, rfl, rfl, by simp [World.setCell], fun j _ hj => Go.heap_setCell_other _ _ _ _ hj⟩⟩
  · unfold SlV.v
    go_simp
  · exact Go.heap_setCell_same w d 0 _ 95 _ h
theorem set_new (h : RfP B w d X v pv H) (hB : B ≤ w.heap.size) (hp : p.ok) (hno : ∀ z ∈ X, z.1.1 ≠ p) (hl : RN.Lo w B lv.v L) (okL : ∀ x ∈ L, x.ok) (hln : L.length ≤ 2500000000000) (hne : L ≠ []) (hn : X.length + 1 ≤ 1100000000000) :
    ∃ bv w1 sv2 w2 w3, (Instr.buildSlice 92 1 #[(0, .agg (p.c ++ [lv.v]).toArray)]).run Tryz.prog w = .ok bv w1 ∧ Below w.heap.size w w1 ∧ (Builtin.append_ #[92, 92] 92 #[v.v, bv]).run Tryz.prog w1 = .ok sv2 w2 ∧ Tch (fun j => j = d ∨ v.v.ownBlock = some j) w w2 ∧ w2.heap[d]? = some (.cells #[v.v, pv] 95 (0, 0)) ∧ (Instr.storeAt 92 (.pointer (some ⟨d, 0 + 0, none⟩)) sv2).run Tryz.prog w2 = .ok () w3 ∧ SetE B w d X v pv H p L lv.v w3 := by
  obtain ⟨bv, w1, sv2, w2, E1, E2, o2, b1, z1, g2, q2⟩ := RowT.run_push RT_is w B v.v X.row (p, lv) h.sl hp (by rw [Sls.row, List.length_map]; unfold maxLen; omega) (by rw [Sls.row, List.length_map]; show _ * 120 ≤ _; omega) hB
  obtain ⟨oa, oc, eo⟩ := o2.form
  have t12 : Tch (fun j => v.v.ownBlock = some j) w1 w2 := ⟨g2.os, g2.tape, g2.output, g2.size, fun j hj hn => g2.block j hj (fun e => hn e.symm)⟩
  have t2 : Tch (fun j => v.v.ownBlock = some j) w w2 := (tch_of b1 _).trans' t12 (fun j _ q => q)
  have hvd : ¬ v.v.ownBlock = some d := fun e => by
    obtain ⟨_, c2, h2⟩ := h.sl.cells e
    have := two_types h2 h.cell
    revert this; decide
  have hd2 : w2.heap[d]? = _ := (t2.block d (Array.getElem?_eq_some_iff.1 h.cell).1 hvd).trans h.cell
  obtain ⟨w3, E3, hd3, t3⟩ := st_slots (sv := ⟨oa, _, oc⟩) hd2 ⟨v, rfl⟩
  have tt : Tch (fun j => j = d ∨ v.v.ownBlock = some j) w w3 := (t2.mono (fun j _ e => .inr e)).trans' t3 (fun j _ e => .inl e)
  obtain ⟨hk', he'⟩ := ent_snoc h.ok hno (s := lv) hne
  have hE : ∀ j c, w.heap[j]? = some (.cells c 85 (0, 0)) → ¬ (j = d ∨ v.v.ownBlock = some j) := fun j c hj e => by
    rcases e with e | e
    · rw [e] at hj
      have := two_types hj h.cell
      revert this; decide
    · obtain ⟨_, c2, h2⟩ := h.sl.cells e
      have := two_types hj h2
      revert this; decide
  have nd : sv2.ownBlock ≠ some d := fun e => by
    obtain ⟨_, c2, h2⟩ := o2.cells e
    have := two_types h2 hd2
    revert this; decide
  have hv : sv2.ownBlock = v.v.ownBlock ∨ ∀ j, sv2.ownBlock = some j → w.heap.size ≤ j := by
    rcases q2 with q | q
    · exact .inl q
    · exact .inr (fun j hj => by rw [q] at hj; injection hj with hj; omega)
  rw [eo] at o2 hv nd
  refine ⟨bv, w1, sv2, w2, w3, E1, b1, E2, t2.mono (fun j _ e => .inr e), hd2, by rw [eo]; exact E3, X ++ [((p, lv), L)], ⟨oa, _, oc⟩, h.upd hd3 ?_ ?_ hk' tt hv, he', by simp, tt, hv, fun z hz => (List.mem_append.1 hz).imp id (fun e => by rw [List.mem_singleton.1 e])⟩
  · have : Sls.row (X ++ [((p, lv), L)]) = X.row ++ [(p, lv)] := by simp [Sls.row]
    rw [this]
    exact o2.keep (fun j hj => t3.block j (o2.lt hj) (fun e => nd (e ▸ hj)))
  · have s1 : SlsAt w B (X ++ [((p, lv), L)]) := fun z hz => by
      rcases List.mem_append.1 hz with h2 | h2
      · exact h.en z h2
      · rw [List.mem_singleton.1 h2]; exact ⟨hl, hp, okL, hln⟩
    exact s1.keep tt hE
theorem bs_sl0 (w : World) : (Instr.buildSlice 92 0 #[]).run Tryz.prog w = .ok (.slice (some ⟨w.heap.size, 0, none⟩) 0 0) (w.alloc (.cells #[] 174)) := by kernel_rfl
theorem set_del (h : RfP B w d X v pv H) (hB : B ≤ w.heap.size) {i : Nat} {q : (PlK × SlV) × List EnV} (hq : X[i]? = some q) (hn : X.length + 1 ≤ 1100000000000) (lo : Value) :
    ∃ av zv e0 w0 u1 w1 sv2 w2 w3, (∀ W, (Instr.sliceAt 92 v.v none (some (.int .i64 (i : Int))) none).run Tryz.prog W = .ok av W) ∧ (∀ W, (Instr.sliceAt 92 v.v (some (.int .i64 ((i + 1 : Nat) : Int))) none none).run Tryz.prog W = .ok zv W) ∧ (Instr.buildSlice 92 0 #[]).run Tryz.prog w = .ok e0 w0 ∧ Below w.heap.size w w0 ∧ (Builtin.append_ #[92, 92] 92 #[e0, av]).run Tryz.prog w0 = .ok u1 w1 ∧ Below w.heap.size w w1 ∧ (Builtin.append_ #[92, 92] 92 #[u1, zv]).run Tryz.prog w1 = .ok sv2 w2 ∧ Below w.heap.size w w2 ∧ (Instr.storeAt 92 (.pointer (some ⟨d, 0 + 0, none⟩)) sv2).run Tryz.prog w2 = .ok () w3 ∧ SetE B w d X v pv H q.1.1 [] lo w3 := by
  have hi := (List.getElem?_eq_some_iff.1 hq).1
  have rok := Sls.row_ok h.en
  obtain ⟨a, c, ev, hat, hc, _⟩ := h.sl.open RT_is rok
  have hrl : X.row.length = X.length := by simp [Sls.row]
  obtain ⟨za, zc, SZ, zat, _⟩ := RowT.sl_from RT_is (n := i + 1) hat hc (by omega)
  have b0 : Below w.heap.size w (w.alloc (.cells #[] 174)) := (Below.refl _ _).alloc (Nat.le_refl _) _
  have o0 : RT.Own (w.alloc (.cells #[] 174)) w.heap.size (.slice (some ⟨w.heap.size, 0, none⟩) 0 0) [] := ⟨by simp [RowT.flat], .inr ⟨w.heap.size, 0, #[], rfl, Nat.le_refl _, heap_alloc_new _ _, Nat.le_refl _, by decide, by simp, by simp [RowT.flat]⟩⟩
  have htl : (X.row.take i).length = i := by rw [List.length_take]; omega
  have hdl : (X.row.drop (i + 1)).length = X.row.length - (i + 1) := by rw [List.length_drop]
  obtain ⟨u1, w1, E1, o1, g1, q1⟩ := RowT.run_app RT_is _ w.heap.size _ [] a (X.row.take i) c o0 ((hat.below b0).take i) (fun x hx => rok x (List.mem_of_mem_take hx)) (by rw [htl]; simp; unfold maxLen; omega) (by rw [htl]; simp; show _ * 120 ≤ _; omega) b0.size
  have b1 : Below w.heap.size w w1 := b0.grown g1 b0.size (fun k hk => (o0.cells hk).1)
  rw [htl] at E1
  rw [List.nil_append] at o1
  obtain ⟨sv2, w2, E2, o2, g2, q2⟩ := RowT.run_app RT_is w1 w.heap.size u1 (X.row.take i) za (X.row.drop (i + 1)) zc o1 (zat.below b1) (fun x hx => rok x (List.mem_of_mem_drop hx)) (by rw [htl, hdl]; unfold maxLen; omega) (by rw [htl, hdl]; show _ * 120 ≤ _; omega) b1.size
  have b2 : Below w.heap.size w w2 := b1.grown g2 b1.size (fun k hk => (o1.cells hk).1)
  rw [hdl] at E2
  obtain ⟨oa, oc, eo⟩ := o2.form
  have hd2 : w2.heap[d]? = _ := (b2.block d (Array.getElem?_eq_some_iff.1 h.cell).1).trans h.cell
  obtain ⟨w3, E3, hd3, t3⟩ := st_slots (sv := ⟨oa, _, oc⟩) hd2 ⟨v, rfl⟩
  have tt : Tch (fun j => j = d ∨ v.v.ownBlock = some j) w w3 := (tch_of b2 _).trans' t3 (fun j _ e => .inl e)
  obtain ⟨hk', he'⟩ := ent_erase h.ok hq
  have hE : ∀ j c, w.heap[j]? = some (.cells c 85 (0, 0)) → ¬ (j = d ∨ v.v.ownBlock = some j) := fun j c hj e => by
    rcases e with e | e
    · rw [e] at hj
      have := two_types hj h.cell
      revert this; decide
    · obtain ⟨_, c2, h2⟩ := h.sl.cells e
      have := two_types hj h2
      revert this; decide
  have nd : sv2.ownBlock ≠ some d := fun e => by
    have := (o2.cells e).1
    have := (Array.getElem?_eq_some_iff.1 h.cell).1
    omega
  have hv : ∀ j, sv2.ownBlock = some j → w.heap.size ≤ j := fun j hj => (o2.cells hj).1
  rw [eo] at o2 hv nd
  refine ⟨_, _, _, _, u1, w1, sv2, w2, w3, fun W => ?_, fun W => ?_, bs_sl0 w, b0, E1, b1, E2, b2, by rw [eo]; exact E3, X.take i ++ X.drop (i + 1), ⟨oa, _, oc⟩, h.upd hd3 ?_ ?_ hk' tt (.inr hv), he', by rw [List.length_append, List.length_take, List.length_drop]; omega, tt, .inr hv, fun z hz => .inl (by
    rcases List.mem_append.1 hz with h2 | h2
    · exact List.mem_of_mem_take h2
    · exact List.mem_of_mem_drop h2)⟩
  · rw [ev]; exact RowT.sl_upto RT_is a (by omega) W
  · rw [ev]; exact SZ W
  · have : Sls.row (X.take i ++ X.drop (i + 1)) = X.row.take i ++ X.row.drop (i + 1) := by simp [Sls.row, List.map_take, List.map_drop]
    rw [this]
    exact (o2.keep (fun j hj => t3.block j (o2.lt hj) (fun e => nd (e ▸ hj)))).mono hB
  · have s1 : SlsAt w B (X.take i ++ X.drop (i + 1)) := fun z hz => h.en z (by
      rcases List.mem_append.1 hz with h2 | h2
      · exact List.mem_of_mem_take h2
      · exact List.mem_of_mem_drop h2)
    exact s1.keep tt hE
end
theorem SetE.from {B : Nat} {w w1 w' : World} {d : Nat} {X : Sls} {v : SlV} {pv : Value} {H : List (SlV × Sls)} {p : PlK} {L : List EnV} {lo : Value} (b : Below w.heap.size w w1) (h : SetE B w1 d X v pv H p L lo w') : SetE B w d X v pv H p L lo w' := by
  obtain ⟨X', v', h1, h2, h3, h4, h5, h6⟩ := h
  exact ⟨X', v', h1, h2, h3, (tch_of b _).trans' h4 (fun j _ q => q), h5.imp id (fun q j hj => Nat.le_trans b.size (q j hj)), h6⟩
theorem rf_set {B : Nat} {w : World} {d : Nat} {X : Sls} {v : SlV} {pv : Value} {H : List (SlV × Sls)} (h : RfP B w d X v pv H) (hB : B ≤ w.heap.size) (hn : X.length + 1 ≤ 1100000000000) {p : PlK} (hp : p.ok) {la : Option Addr} {lc : Nat} {L : List EnV} (hl : RN.Lo w B (.slice la L.length lc) L) (okL : ∀ x ∈ L, x.ok) (hln : L.length ≤ 2500000000000) :
    Calls Tryz.prog 73 #[.pointer (some ⟨d, 0, none⟩), p.v, .slice la L.length lc] w fun e w' => e = .returned (.tuple #[]) ∧ SetE B w d X v pv H p L (.slice la L.length lc) w' := by
  obtain ⟨a, c, e, hat⟩ := h.rfS
  obtain ⟨ps, hps⟩ := h.pastS
  obtain ⟨w1, E1, n1, b1⟩ := box_pl w p
  have h1 := h.below b1
  have hS : RfS w1 d a c X.row ps := ⟨by rw [show X.row.length = X.length by simp [Sls.row], ← e, ← hps]; exact h1.cell, hat.below b1, fun x hx => Sls.row_ok h.en x hx⟩
  have CF := hidMk (find_any hS (by simp [Sls.row]; omega) hp)
  have LP := hidMk (ld_pl hp (rng_cells n1))
  have H1 := hidMk E1
  have N1 := hidMk n1
  have HH := hidMk (And.intro h (And.intro b1 (And.intro hl (And.intro okL (And.intro hln hB)))))
  obtain ⟨n, hnn⟩ : ∃ n, L.length = n := ⟨_, rfl⟩
  have HN := hidMk hnn
  rw [hnn]
  have EV := hidMk e
  have hn' : n ≤ 2500000000000 := by omega
  have ST : Hid (∀ w2, Below w1.heap.size w1 w2 → RfP B w2 d X v pv H ∧ RN.Lo w2 B (SlV.v ⟨la, n, lc⟩) L ∧ B ≤ w2.heap.size ∧ Below w.heap.size w w2 ∧ w2.heap[w.heap.size]? = some (.cells p.c.toArray 68 (0, 0))) := by
    intro w2 b2
    have b := b1.trans (b2.mono b1.size)
    refine ⟨h.below b, ?_, Nat.le_trans hB b.size, b, (b2.block _ (Array.getElem?_eq_some_iff.1 n1).1).trans n1⟩
    show RN.Lo w2 B (.slice la n lc) L
    rw [← hnn]
    exact hl.below b
  clear h1 hS e hat hps E1 n1 b1 h hl okL hln hB hnn
  rcases fnd_ent X p with ⟨ef, en⟩ | ⟨i, q, ef, hq, hqp, en⟩
  · rw [ef] at CF
    have HNO : Hid (∀ z ∈ X, z.1.1 ≠ p) := fun z hz e2 => by
      have h2 := ent_of_mem HH.out.1.ok hz
      rw [e2, en] at h2
      exact HH.out.1.ok.ne z hz h2.symm
    have HE := hidMk en
    clear ef en
    by_cases h0 : n = 0
    · subst h0
      have hL0 : Hid (L = []) := List.eq_nil_of_length_eq_zero HN.out
      go_enter Tryz.func73, Tryz.ntmps73
      go_wp2_with (first
        | (refine wpList_run rfl (exec_boxE (t := 68) (v := p.v) (u := .pointer (some ⟨w.heap.size, 0, none⟩)) (w2 := w1) rfl rfl H1.out) ?_)
        | (refine wpList_val rfl (exec_load (t := 68) (v := p.v) rfl rfl LP.out) ?_)
        | (go_at_call 80; refine CF.out.mono ?_; rintro e w2 ⟨rfl, b2⟩; have B2 := hidMk b2; clear b2 CF)
        | fail)
      go_end0
      obtain ⟨r2, l2, hB2, bw, np⟩ := ST.out w2 B2.out
      refine ⟨rfl, X, v, r2, fun r => ?_, by omega, tch_of bw _, .inl rfl, fun z hz => .inl hz⟩
      by_cases e : r = p
      · rw [if_pos e, e, HE.out, hL0.out]
      · rw [if_neg e]
    · have hpos : 0 < n := by omega
      have hLne : Hid (L ≠ []) := fun e => h0 (by rw [← HN.out, e]; rfl)
      clear h0
      go_enter Tryz.func73, Tryz.ntmps73
      go_upto_region 7 with (first
        | (refine wpList_run rfl (exec_boxE (t := 68) (v := p.v) (u := .pointer (some ⟨w.heap.size, 0, none⟩)) (w2 := w1) rfl rfl H1.out) ?_)
        | (refine wpList_val rfl (exec_load (t := 68) (v := p.v) rfl rfl LP.out) ?_)
        | (go_at_call 80; refine CF.out.mono ?_; rintro e w2 ⟨rfl, b2⟩; have B2 := hidMk b2; clear b2 CF)
        | fail)
      have bd : Below w1.heap.size w1 w2.drew := B2.out.drew
      obtain ⟨r2, l2, hB2, bw, np⟩ := ST.out w2.drew bd
      obtain ⟨bv, x1, sv2, x2, x3, e1, c1, e2, t2, hd2, e3, st⟩ := set_new r2 hB2 hp HNO.out l2 HH.out.2.2.2.1 HH.out.2.2.2.2.1 hLne.out hn
      have SS : Hid (∀ W, (W.heap[d]? = some (.cells #[v.v, pv] 95 (0, 0)) ∧ W.heap[w.heap.size]? = some (.cells p.c.toArray 68 (0, 0))) → (Instr.loadAt 92 (.pointer (some ⟨d, 0 + 0, none⟩))).run Tryz.prog W = .ok v.v W ∧ (Instr.loadAt 68 (.pointer (some ⟨w.heap.size, 0, none⟩))).run Tryz.prog W = .ok p.v W) := fun W hW => ⟨by
        have hc : W.cell? ⟨d, 0, none⟩ = some (.slice v.a v.n v.c) := (cell_of_row W d 0 _ _ _ hW.1).trans rfl
        unfold SlV.v
        go_simp, ld_pl hp (rng_cells hW.2)⟩
      have nP : ¬ (w.heap.size = d ∨ v.v.ownBlock = some w.heap.size) := fun e => by
        rcases e with e | e
        · have := (Array.getElem?_eq_some_iff.1 HH.out.1.cell).1
          omega
        · have := HH.out.1.sl.lt e
          omega
      have HS := hidMk (And.intro (And.intro r2.cell np) (And.intro (And.intro ((c1.block d (Array.getElem?_eq_some_iff.1 r2.cell).1).trans r2.cell) ((c1.block _ (Array.getElem?_eq_some_iff.1 np).1).trans np)) (And.intro hd2 ((t2.block _ (Array.getElem?_eq_some_iff.1 np).1 nP).trans np))))
      have HR := hidMk (SetE.from bw st)
      have HX := hidMk (And.intro e1 (And.intro e2 e3))
      clear e1 c1 e2 t2 hd2 e3 st nP r2 l2 np bw bd
      refine set7 (d := d) (pb := w.heap.size) (en := n) (ec := lc) (ea := la) (p := p) (sv := v.v) (bv := bv) (sv2 := sv2) (w1 := x1) (w2 := x2) (w3 := x3) (fun W => W.heap[d]? = some (.cells #[v.v, pv] 95 (0, 0)) ∧ W.heap[w.heap.size]? = some (.cells p.c.toArray 68 (0, 0))) _ w2 _ rfl rfl rfl rfl hp HS.out.1 (fun W hW => (SS.out W hW).1) (fun W hW => (SS.out W hW).2) HX.out.1 HS.out.2.1 HX.out.2.1 HS.out.2.2 HX.out.2.2 ?_
      intro a' w3 hf ha
      subst ha
      subst hf
      simp only [Act.put, List.setIfInBounds_toArray, List.set_cons_zero, List.set_cons_succ]
      clear HX HS SS
      go_wp2
      go_end0
      exact ⟨rfl, HR.out⟩
  · rw [ef] at CF
    have HQ := hidMk (And.intro hq hqp)
    have hi : i < X.length := (List.getElem?_eq_some_iff.1 hq).1
    clear ef en hq hqp
    by_cases h0 : n = 0
    · subst h0
      have hL0 : Hid (L = []) := List.eq_nil_of_length_eq_zero HN.out
      go_enter Tryz.func73, Tryz.ntmps73
      go_upto_region 5 with (first
        | (refine wpList_run rfl (exec_boxE (t := 68) (v := p.v) (u := .pointer (some ⟨w.heap.size, 0, none⟩)) (w2 := w1) rfl rfl H1.out) ?_)
        | (refine wpList_val rfl (exec_load (t := 68) (v := p.v) rfl rfl LP.out) ?_)
        | (go_at_call 80; refine CF.out.mono ?_; rintro e w2 ⟨rfl, b2⟩; have B2 := hidMk b2; clear b2 CF)
        | fail)
      have bd : Below w1.heap.size w1 w2.drew := B2.out.drew
      obtain ⟨r2, l2, hB2, bw, np⟩ := ST.out w2.drew bd
      obtain ⟨av, zv, e0, x0, u1, x1, sv2, x2, x3, sa, sz, e1, c0, e2, c1, e3, c2, e4, st⟩ := set_del r2 hB2 HQ.out.1 hn (.slice la 0 lc)
      have SS : Hid (∀ W, W.heap[d]? = some (.cells #[v.v, pv] 95 (0, 0)) → (Instr.loadAt 92 (.pointer (some ⟨d, 0 + 0, none⟩))).run Tryz.prog W = .ok v.v W) := fun W hW => by
        have hc : W.cell? ⟨d, 0, none⟩ = some (.slice v.a v.n v.c) := (cell_of_row W d 0 _ _ _ hW).trans rfl
        have : (Instr.loadAt 92 (.pointer (some ⟨d, 0 + 0, none⟩))).run Tryz.prog W = .ok (.slice v.a v.n v.c) W := by go_simp
        exact this
      have ld := (Array.getElem?_eq_some_iff.1 r2.cell).1
      have HS := hidMk (And.intro r2.cell (And.intro ((c0.block d ld).trans r2.cell) (And.intro ((c1.block d ld).trans r2.cell) ((c2.block d ld).trans r2.cell))))
      have HR := hidMk (SetE.from bw st)
      have HX := hidMk (And.intro sa (And.intro sz (And.intro e1 (And.intro e2 (And.intro e3 e4)))))
      clear sa sz e1 e2 e3 e4 c0 c1 c2 st r2 l2 np bw bd ld
      refine set5 (d := d) (i := i) (j := i + 1) (sv := v.v) (av := av) (zv := zv) (e0 := e0) (u1 := u1) (sv2 := sv2) (w0 := x0) (w1 := x1) (w2 := x2) (w3 := x3) (fun W => W.heap[d]? = some (.cells #[v.v, pv] 95 (0, 0))) _ w2 _ rfl rfl rfl rfl (by omega) HS.out.1 SS.out HX.out.1 HX.out.2.1 HX.out.2.2.1 HS.out.2.1 HX.out.2.2.2.1 HS.out.2.2.1 HX.out.2.2.2.2.1 HS.out.2.2.2 HX.out.2.2.2.2.2 ?_
      intro a' w3 hf ha
      subst ha
      subst hf
      simp only [Act.put, List.setIfInBounds_toArray, List.set_cons_zero, List.set_cons_succ]
      clear HX HS SS
      go_wp2
      go_end0
      have := HR.out
      rw [HQ.out.2] at this
      rw [hL0.out]
      exact ⟨rfl, this⟩
    · have hpos : 0 < n := by omega
      have hLne : Hid (L ≠ []) := fun e => h0 (by rw [← HN.out, e]; rfl)
      clear h0
      go_enter Tryz.func73, Tryz.ntmps73
      go_upto_region 3 with (first
        | (refine wpList_run rfl (exec_boxE (t := 68) (v := p.v) (u := .pointer (some ⟨w.heap.size, 0, none⟩)) (w2 := w1) rfl rfl H1.out) ?_)
        | (refine wpList_val rfl (exec_load (t := 68) (v := p.v) rfl rfl LP.out) ?_)
        | (go_at_call 80; refine CF.out.mono ?_; rintro e w2 ⟨rfl, b2⟩; have B2 := hidMk b2; clear b2 CF)
        | fail)
      obtain ⟨r2, l2, hB2, bw, np⟩ := ST.out w2 B2.out
      obtain ⟨g, gc, x1, ev, e1, st⟩ := set_in r2 HQ.out.1 l2 HH.out.2.2.2.1 HH.out.2.2.2.2.1 hLne.out
      have L1 : Hid ((Instr.loadAt 92 (.pointer (some ⟨d, 0 + 0, none⟩))).run Tryz.prog w2 = .ok (.slice (some ⟨g, 0, none⟩) X.length gc) w2) := by
        have hc : w2.cell? ⟨d, 0, none⟩ = some (.slice (some ⟨g, 0, none⟩) X.length gc) := by rw [← ev]; exact (cell_of_row w2 d 0 _ _ _ r2.cell).trans rfl
        have : (Instr.loadAt 92 (.pointer (some ⟨d, 0 + 0, none⟩))).run Tryz.prog w2 = .ok (.slice (some ⟨g, 0, none⟩) X.length gc) w2 := by go_simp
        exact this
      have HR := hidMk (SetE.from bw st)
      have HX := hidMk e1
      clear e1 st r2 l2 np bw ev
      refine set3 (d := d) (g := g) (o := 0) (n := X.length) (c := gc) (i := i) (lv := .slice la n lc) (w1 := x1) _ w2 _ rfl rfl rfl rfl hi (by omega) (fun W e => by rw [e]; exact L1.out) HX.out ?_
      intro a' w3 hf ha
      subst ha
      subst hf
      simp only [Act.put, List.setIfInBounds_toArray, List.set_cons_zero, List.set_cons_succ]
      clear HX L1
      go_wp2
      go_end0
      have := HR.out
      rw [HQ.out.2] at this
      exact ⟨rfl, this⟩
theorem rf_undo_not {B : Nat} {w : World} {d : Nat} {X : Sls} {v : SlV} {pv : Value} {H : List (SlV × Sls)} (h : RfP B w d X v pv H) {m : Int} (hm : m < 1 ∨ m ≠ (H.length : Int)) : Calls Tryz.prog 58 #[.pointer (some ⟨d, 0, none⟩), .int .i64 m] w fun e w' => e = .returned (.int .i64 2) ∧ w' = w := by
  obtain ⟨a, c, e, _⟩ := h.past.open
  rw [List.length_map] at e
  have c1 : w.cell? ⟨d, 1, none⟩ = some (.slice a H.length c) := by rw [← e]; exact (cell_of_row w d 1 _ _ _ h.cell).trans rfl
  clear h e
  by_cases h1 : m < 1
  · clear hm
    go_enter Tryz.func58, Tryz.ntmps58
    go_wp2
    go_ret
    exact ⟨rfl, rfl⟩
  · have h2 : m ≠ (H.length : Int) := by
      rcases hm with h | h
      · exact absurd h h1
      · exact h
    have h3 : (m != (H.length : Int)) = true := by simpa using h2
    clear hm
    go_enter Tryz.func58, Tryz.ntmps58
    go_wp2
    go_ret
    exact ⟨rfl, rfl⟩
theorem ix_tx {b o m c i : Nat} (hi : i < m) (hm : m ≤ 9223372036854775807) (W : World) : (Instr.indexAt 74 (.slice (some ⟨b, o, none⟩) m c) (.int .i64 (i : Int))).run Tryz.prog W = .ok (.pointer (some ⟨b, o + i, none⟩)) W := by
  go_simp
theorem ix_ps {b o m c i : Nat} (hi : i < m) (hm : m ≤ 9223372036854775807) (W : World) : (Instr.indexAt 93 (.slice (some ⟨b, o, none⟩) m c) (.int .i64 (i : Int))).run Tryz.prog W = .ok (.pointer (some ⟨b, o + i, none⟩)) W := by
  go_simp
theorem exec_slu {w : World} {a : Act} {o : Oper} {t : TypeId} {x hi : Operand} {xv hv v : Value} (ho : o.op = .slice t x none (some hi) none) (hx : a.eval x = xv) (h2 : a.eval hi = hv) (hl : (Instr.sliceAt t xv none (some hv) none).run Tryz.prog w = .ok v w) : (execOp a.eval o).run Tryz.prog w = .ok (.value v) w := exec_slice ho hx rfl (by rw [Option.map_some, h2]) rfl hl
theorem ex_ltx {w : World} {a : Act} {o : Oper} {x y : Operand} {s t : ByteArray} {r : Bool} (ho : o.op = .binOp .lss 9 x y 9) (hx : a.eval x = .string s) (hy : a.eval y = .string t) (hl : (binOp .lss 9 (.string s) (.string t)).run Tryz.prog w = .ok (.bool r) w) : (execOp a.eval o).run Tryz.prog w = .ok (.value (.bool r)) w := by
  refine exec_binOp ho hx hy ?_ hl
  kernel_rfl
theorem ex_gtz {w : World} {a : Act} {o : Oper} {x y : Operand} {n : Nat} {r : Bool} (hr : decide (0 < n) = r) (ho : o.op = .binOp .gtr 3 x y 3) (hx : a.eval x = .int .i64 (n : Int)) (hy : a.eval y = .int .i64 0) : (execOp a.eval o).run Tryz.prog w = .ok (.value (.bool r)) w := by
  subst hr
  have h2 : decide ((n : Int) > 0) = decide (0 < n) := decide_eq_decide.2 (by omega)
  refine exec_binOp ho hx hy ?_ ?_
  · kernel_rfl
  · rw [← h2]
    go_simp
def rpu2_o0 : Oper := ⟨some 13, .move (.tmp 0), 28, "ref.go:101", #[], none⟩
def rpu2_o1 : Oper := ⟨some 14, .move (.tmp 0), 28, "ref.go:101", #[], none⟩
def rpu2_o2 : Oper := ⟨some 15, .nilCheck (.tmp 14), 0, "ref.go:101", #[⟨1, .data⟩], none⟩
def rpu2_o3 : Oper := ⟨some 16, .fieldAddr 95 (.tmp 15) 1, 0, "ref.go:101", #[⟨2, .data⟩], none⟩
def rpu2_o4 : Oper := ⟨some 17, .load 93 (.tmp 16), 93, "ref.go:101", #[⟨3, .data⟩], none⟩
def rpu2_o5 : Oper := ⟨some 18, .move (.tmp 0), 28, "ref.go:101", #[], none⟩
def rpu2_o6 : Oper := ⟨some 19, .nilCheck (.tmp 18), 0, "ref.go:101", #[⟨5, .data⟩], none⟩
def rpu2_o7 : Oper := ⟨some 20, .fieldAddr 95 (.tmp 19) 0, 0, "ref.go:101", #[⟨6, .data⟩], none⟩
def rpu2_o8 : Oper := ⟨some 21, .load 92 (.tmp 20), 92, "ref.go:101", #[⟨7, .data⟩], none⟩
def rpu2_o9 : Oper := ⟨some 22, .call { callee := Callee.value (Operand.func 71), args := #[.tmp 21], argTypes := #[92] }, 92, "ref.go:101", #[⟨8, .data⟩], none⟩
def rpu2_o10 : Oper := ⟨some 23, .buildSlice 93 1 #[(0, .tmp 22)], 93, "ref.go:101", #[⟨9, .data⟩], none⟩
def rpu2_o11 : Oper := ⟨some 24, .call { callee := Callee.builtin Builtin.append, args := #[.tmp 17, .tmp 23], argTypes := #[93, 93] }, 93, "ref.go:101", #[⟨4, .data⟩, ⟨10, .data⟩, ⟨9, .chain⟩], none⟩
def rpu2_o12 : Oper := ⟨some 25, .nilCheck (.tmp 13), 0, "ref.go:101", #[⟨0, .data⟩, ⟨0, .phase⟩, ⟨1, .phase⟩, ⟨2, .phase⟩, ⟨3, .phase⟩, ⟨4, .phase⟩, ⟨5, .phase⟩, ⟨6, .phase⟩, ⟨7, .phase⟩, ⟨8, .phase⟩, ⟨9, .phase⟩, ⟨10, .phase⟩, ⟨11, .phase⟩], none⟩
def rpu2_o13 : Oper := ⟨some 26, .fieldAddr 95 (.tmp 25) 1, 0, "ref.go:101", #[⟨12, .data⟩, ⟨0, .phase⟩, ⟨1, .phase⟩, ⟨2, .phase⟩, ⟨3, .phase⟩, ⟨4, .phase⟩, ⟨5, .phase⟩, ⟨6, .phase⟩, ⟨7, .phase⟩, ⟨8, .phase⟩, ⟨9, .phase⟩, ⟨10, .phase⟩, ⟨11, .phase⟩], none⟩
def rpu2_o14 : Oper := ⟨none, .store 93 (.tmp 26) (.tmp 24), 0, "ref.go:101", #[⟨13, .data⟩, ⟨11, .data⟩, ⟨11, .chain⟩, ⟨0, .phase⟩, ⟨1, .phase⟩, ⟨2, .phase⟩, ⟨3, .phase⟩, ⟨4, .phase⟩, ⟨5, .phase⟩, ⟨6, .phase⟩, ⟨7, .phase⟩, ⟨8, .phase⟩, ⟨9, .phase⟩, ⟨10, .phase⟩, ⟨11, .phase⟩], none⟩
def rpu2_ops : Array Oper := #[rpu2_o0, rpu2_o1, rpu2_o2, rpu2_o3, rpu2_o4, rpu2_o5, rpu2_o6, rpu2_o7, rpu2_o8, rpu2_o9, rpu2_o10, rpu2_o11, rpu2_o12, rpu2_o13, rpu2_o14]
theorem rpu2 {d : Nat} {pv sv : Value} (S Fin : World → Prop) (a : Act) (w : World) (Q : Exit → Act → World → Prop) (zz : a.tmps.size = 40)
    (t0 : a.tmps.getD 0 undef = .pointer (some ⟨d, 0, none⟩))
    (h0 : S w.drew) (L1 : ∀ W, S W → (Instr.loadAt 93 (.pointer (some ⟨d, 0 + 1, none⟩))).run Tryz.prog W = .ok (pv) W) (L2 : ∀ W, S W → (Instr.loadAt 92 (.pointer (some ⟨d, 0 + 0, none⟩))).run Tryz.prog W = .ok (sv) W) (CC : Calls Tryz.prog 71 #[sv] w.drew fun e w' => ∃ u bv w1 pv2 w2 w3, e = .returned u ∧ S w' ∧ (Instr.buildSlice 93 1 #[(0, u)]).run Tryz.prog w' = .ok bv w1 ∧ S w1 ∧ (Builtin.append_ #[93, 93] 93 #[pv, bv]).run Tryz.prog w1 = .ok pv2 w2 ∧ S w2 ∧ (Instr.storeAt 93 (.pointer (some ⟨d, 0 + 1, none⟩)) pv2).run Tryz.prog w2 = .ok () w3 ∧ Fin w3)
    (h : ∀ (u bv pv2 : Value) (a' : Act) (w' : World), Fin w' → a' = ((((((((((((((a).put (some 13) (.pointer (some ⟨d, 0, none⟩))).put (some 14) (.pointer (some ⟨d, 0, none⟩))).put (some 15) (.pointer (some ⟨d, 0, none⟩))).put (some 16) (.pointer (some ⟨d, 0 + 1, none⟩))).put (some 17) (pv)).put (some 18) (.pointer (some ⟨d, 0, none⟩))).put (some 19) (.pointer (some ⟨d, 0, none⟩))).put (some 20) (.pointer (some ⟨d, 0 + 0, none⟩))).put (some 21) (sv)).put (some 22) (u)).put (some 23) (bv)).put (some 24) (pv2)).put (some 25) (.pointer (some ⟨d, 0, none⟩))).put (some 26) (.pointer (some ⟨d, 0 + 1, none⟩)) → Q .normal a' w') :
    (Code.region 2 rpu2_ops true).wp Tryz.prog Q a w := by
  refine x0 14 (fun w' => S w') (h0) (fun hHeld => ?_)
  refine xv 0 rfl rfl (fun w1 hw => exec_move rfl (zi t0 rfl)) hHeld ?_
  refine xv 1 rfl rfl (fun w1 hw => exec_move rfl (zi t0 rfl)) hHeld ?_
  refine xv 2 rfl rfl (fun w1 hw => exec_nilCheck rfl (zg zz rfl)) hHeld ?_
  refine xv 3 rfl rfl (fun w1 hw => exec_fieldAt rfl (zg zz rfl) (fg_95_1 _ _ _)) hHeld ?_
  refine xv 4 rfl rfl (fun w1 hw => exec_load rfl (zg zz rfl) (L1 _ hw)) hHeld ?_
  refine xv 5 rfl rfl (fun w1 hw => exec_move rfl (zi t0 rfl)) hHeld ?_
  refine xv 6 rfl rfl (fun w1 hw => exec_nilCheck rfl (zg zz rfl)) hHeld ?_
  refine xv 7 rfl rfl (fun w1 hw => exec_fieldAt rfl (zg zz rfl) (fg_95_0 _ _ _)) hHeld ?_
  refine xv 8 rfl rfl (fun w1 hw => exec_load rfl (zg zz rfl) (L2 _ hw)) hHeld ?_
  refine xc 9 rfl rfl (exec_c1 rfl (zg zz rfl)) (CC) (fun e x9 hx => ?_)
  obtain ⟨u, bv, w1, pv2, w2, w3, rfl, S0, E1, S1, E2, S2, E3, HF⟩ := hx
  replace h := h u bv pv2
  refine ⟨_, rfl, fun _ => S0, fun hHeld => ?_⟩
  replace hHeld := hHeld (by decide)
  refine xr (v := bv) 10 rfl rfl (exec_buildSlice rfl (zg zz rfl) E1) (fun _ => S1) (fun hHeld => ?_)
  replace hHeld := hHeld (by decide)
  refine xr (v := pv2) 11 rfl rfl (exec_append rfl (zg zz rfl) (zg zz rfl) E2) (fun _ => S2) (fun hHeld => ?_)
  replace hHeld := hHeld (by decide)
  refine xv 12 rfl rfl (fun w1 hw => exec_nilCheck rfl (zg zz rfl)) hHeld ?_
  refine xv 13 rfl rfl (fun w1 hw => exec_fieldAt rfl (zg zz rfl) (fg_95_1 _ _ _)) hHeld ?_
  refine xs 14 rfl rfl (exec_store rfl (zg zz rfl) (zg zz rfl) E3) (fun hne => absurd rfl hne) (fun _ => ?_)
  exact xe rfl (h _ _ (HF) rfl)
def rpu3_o0 : Oper := ⟨some 27, .move (.tmp 0), 28, "ref.go:102", #[], none⟩
def rpu3_o1 : Oper := ⟨some 28, .load 68 (.tmp 6), 68, "ref.go:102", #[], none⟩
def rpu3_o2 : Oper := ⟨some 29, .move (.tmp 4), 64, "ref.go:102", #[], none⟩
def rpu3_o3 : Oper := ⟨some 30, .call { callee := Callee.value (Operand.func 72), args := #[.tmp 27, .tmp 28, .tmp 29], argTypes := #[28, 68, 64] }, 71, "ref.go:102", #[⟨0, .data⟩, ⟨1, .data⟩, ⟨2, .data⟩], none⟩
def rpu3_o4 : Oper := ⟨some 10, .assign (.tmp 30), 71, "ref.go:102", #[⟨3, .data⟩, ⟨3, .chain⟩, ⟨0, .phase⟩, ⟨1, .phase⟩, ⟨2, .phase⟩, ⟨3, .phase⟩], none⟩
def rpu3_ops : Array Oper := #[rpu3_o0, rpu3_o1, rpu3_o2, rpu3_o3, rpu3_o4]
theorem rpu3 {d pb : Nat} {sv : Value} {p : PlK} (Fin : Value → World → Prop) (a : Act) (w : World) (Q : Exit → Act → World → Prop) (zz : a.tmps.size = 40)
    (t0 : a.tmps.getD 0 undef = .pointer (some ⟨d, 0, none⟩))
    (t4 : a.tmps.getD 4 undef = sv)
    (t6 : a.tmps.getD 6 undef = .pointer (some ⟨pb, 0, none⟩))
    (LP : ∀ W, W = w → (Instr.loadAt 68 (.pointer (some ⟨pb, 0, none⟩))).run Tryz.prog W = .ok (p.v) W) (CL : Calls Tryz.prog 72 #[.pointer (some ⟨d, 0, none⟩), p.v, sv] w fun e w' => ∃ u, e = .returned u ∧ Fin u w')
    (h : ∀ (u : Value) (a' : Act) (w' : World), Fin u w' → a' = (((((a).put (some 27) (.pointer (some ⟨d, 0, none⟩))).put (some 28) (p.v)).put (some 29) (sv)).put (some 30) (u)).put (some 10) (u) → Q .normal a' w') :
    (Code.region 3 rpu3_ops false).wp Tryz.prog Q a w := by
  refine z0 rfl ?_
  refine zv rfl (exec_move rfl (zi t0 rfl)) ?_
  refine zv rfl (exec_load rfl (zi t6 rfl) (LP _ rfl)) ?_
  refine zv rfl (exec_move rfl (zi t4 rfl)) ?_
  refine zc rfl (exec_c3 rfl (zg zz rfl) (zg zz rfl) (zg zz rfl)) (CL) (fun e x3 hx => ?_)
  obtain ⟨u, rfl, HF⟩ := hx
  replace h := h u
  refine ⟨_, rfl, ?_⟩
  refine zv rfl (exec_assign rfl (zg zz rfl)) ?_
  exact ze rfl (h _ _ (HF) rfl)
def rpu4_o0 : Oper := ⟨some 31, .move (.tmp 0), 28, "ref.go:103", #[], none⟩
def rpu4_o1 : Oper := ⟨some 32, .load 68 (.tmp 6), 68, "ref.go:103", #[], none⟩
def rpu4_o2 : Oper := ⟨some 33, .move (.tmp 10), 71, "ref.go:103", #[], none⟩
def rpu4_o3 : Oper := ⟨some 34, .load 59 (.tmp 7), 59, "ref.go:103", #[], none⟩
def rpu4_o4 : Oper := ⟨some 35, .load 63 (.tmp 8), 63, "ref.go:103", #[], none⟩
def rpu4_o5 : Oper := ⟨some 36, .build 85 #[(0, .tmp 34), (1, .tmp 35)], 85, "ref.go:103", #[⟨3, .data⟩, ⟨4, .data⟩], none⟩
def rpu4_o6 : Oper := ⟨some 37, .buildSlice 71 1 #[(0, .tmp 36)], 71, "ref.go:103", #[⟨5, .data⟩], none⟩
def rpu4_o7 : Oper := ⟨some 38, .call { callee := Callee.builtin Builtin.append, args := #[.tmp 33, .tmp 37], argTypes := #[71, 71] }, 71, "ref.go:103", #[⟨2, .data⟩, ⟨6, .data⟩], none⟩
def rpu4_o8 : Oper := ⟨some 39, .call { callee := Callee.value (Operand.func 73), args := #[.tmp 31, .tmp 32, .tmp 38], argTypes := #[28, 68, 71] }, 0, "ref.go:103", #[⟨0, .data⟩, ⟨1, .data⟩, ⟨7, .data⟩, ⟨7, .chain⟩], none⟩
def rpu4_ops : Array Oper := #[rpu4_o0, rpu4_o1, rpu4_o2, rpu4_o3, rpu4_o4, rpu4_o5, rpu4_o6, rpu4_o7, rpu4_o8]
theorem rpu4 {d pb ib vb : Nat} {lv bv u : Value} {p : PlK} {id : IdK} {x : VaV} {w1 w2 : World} (S Fin : World → Prop) (a : Act) (w : World) (Q : Exit → Act → World → Prop) (zz : a.tmps.size = 40)
    (t0 : a.tmps.getD 0 undef = .pointer (some ⟨d, 0, none⟩))
    (t6 : a.tmps.getD 6 undef = .pointer (some ⟨pb, 0, none⟩))
    (t7 : a.tmps.getD 7 undef = .pointer (some ⟨ib, 0, none⟩))
    (t8 : a.tmps.getD 8 undef = .pointer (some ⟨vb, 0, none⟩))
    (t10 : a.tmps.getD 10 undef = lv)
    (hid : id.ok) (h0 : S w.drew) (LP : ∀ W, S W → (Instr.loadAt 68 (.pointer (some ⟨pb, 0, none⟩))).run Tryz.prog W = .ok (p.v) W) (LI : ∀ W, S W → (Instr.loadAt 59 (.pointer (some ⟨ib, 0, none⟩))).run Tryz.prog W = .ok (id.v) W) (LV : ∀ W, S W → (Instr.loadAt 63 (.pointer (some ⟨vb, 0, none⟩))).run Tryz.prog W = .ok (x.v) W) (E1 : (Instr.buildSlice 71 1 #[(0, EnV.a ⟨id, x⟩)]).run Tryz.prog w.drew = .ok bv w1) (S1 : S w1) (E2 : (Builtin.append_ #[71, 71] 71 #[lv, bv]).run Tryz.prog w1 = .ok u w2) (S2 : S w2) (CS : Calls Tryz.prog 73 #[.pointer (some ⟨d, 0, none⟩), p.v, u] w2 fun e w' => e = .returned (.tuple #[]) ∧ Fin w')
    (h : ∀ (a' : Act) (w' : World), Fin w' → a' = (((((((((a).put (some 31) (.pointer (some ⟨d, 0, none⟩))).put (some 32) (p.v)).put (some 33) (lv)).put (some 34) (id.v)).put (some 35) (x.v)).put (some 36) (EnV.a ⟨id, x⟩)).put (some 37) (bv)).put (some 38) (u)).put (some 39) (.tuple #[]) → Q .normal a' w') :
    (Code.region 4 rpu4_ops true).wp Tryz.prog Q a w := by
  refine x0 8 (fun w' => S w') (h0) (fun hHeld => ?_)
  refine xv 0 rfl rfl (fun w1 hw => exec_move rfl (zi t0 rfl)) hHeld ?_
  refine xv 1 rfl rfl (fun w1 hw => exec_load rfl (zi t6 rfl) (LP _ hw)) hHeld ?_
  refine xv 2 rfl rfl (fun w1 hw => exec_move rfl (zi t10 rfl)) hHeld ?_
  refine xv 3 rfl rfl (fun w1 hw => exec_load rfl (zi t7 rfl) (LI _ hw)) hHeld ?_
  refine xv 4 rfl rfl (fun w1 hw => exec_load rfl (zi t8 rfl) (LV _ hw)) hHeld ?_
  refine xv (v := EnV.a ⟨id, x⟩) 5 rfl rfl (fun w1 hw => exec_ben hid rfl (zg zz rfl) (zg zz rfl)) hHeld ?_
  refine xr (v := bv) 6 rfl rfl (exec_buildSlice rfl (zg zz rfl) E1) (fun _ => S1) (fun hHeld => ?_)
  replace hHeld := hHeld (by decide)
  refine xr (v := u) 7 rfl rfl (exec_append rfl (zg zz rfl) (zg zz rfl) E2) (fun _ => S2) (fun hHeld => ?_)
  replace hHeld := hHeld (by decide)
  refine xc 8 rfl rfl (exec_c3 rfl (zg zz rfl) (zg zz rfl) (zg zz rfl)) (CS) (fun e x8 hx => ?_)
  obtain ⟨rfl, HF⟩ := hx
  refine ⟨_, rfl, fun hne => absurd rfl hne, fun _ => ?_⟩
  exact xe rfl (h _ _ (HF) rfl)
def rde2_o0 : Oper := ⟨some 8, .move (.tmp 0), 28, "ref.go:110", #[], none⟩
def rde2_o1 : Oper := ⟨some 9, .move (.tmp 0), 28, "ref.go:110", #[], none⟩
def rde2_o2 : Oper := ⟨some 10, .nilCheck (.tmp 9), 0, "ref.go:110", #[⟨1, .data⟩], none⟩
def rde2_o3 : Oper := ⟨some 11, .fieldAddr 95 (.tmp 10) 1, 0, "ref.go:110", #[⟨2, .data⟩], none⟩
def rde2_o4 : Oper := ⟨some 12, .load 93 (.tmp 11), 93, "ref.go:110", #[⟨3, .data⟩], none⟩
def rde2_o5 : Oper := ⟨some 13, .move (.tmp 0), 28, "ref.go:110", #[], none⟩
def rde2_o6 : Oper := ⟨some 14, .nilCheck (.tmp 13), 0, "ref.go:110", #[⟨5, .data⟩], none⟩
def rde2_o7 : Oper := ⟨some 15, .fieldAddr 95 (.tmp 14) 0, 0, "ref.go:110", #[⟨6, .data⟩], none⟩
def rde2_o8 : Oper := ⟨some 16, .load 92 (.tmp 15), 92, "ref.go:110", #[⟨7, .data⟩], none⟩
def rde2_o9 : Oper := ⟨some 17, .call { callee := Callee.value (Operand.func 71), args := #[.tmp 16], argTypes := #[92] }, 92, "ref.go:110", #[⟨8, .data⟩], none⟩
def rde2_o10 : Oper := ⟨some 18, .buildSlice 93 1 #[(0, .tmp 17)], 93, "ref.go:110", #[⟨9, .data⟩], none⟩
def rde2_o11 : Oper := ⟨some 19, .call { callee := Callee.builtin Builtin.append, args := #[.tmp 12, .tmp 18], argTypes := #[93, 93] }, 93, "ref.go:110", #[⟨4, .data⟩, ⟨10, .data⟩, ⟨9, .chain⟩], none⟩
def rde2_o12 : Oper := ⟨some 20, .nilCheck (.tmp 8), 0, "ref.go:110", #[⟨0, .data⟩, ⟨0, .phase⟩, ⟨1, .phase⟩, ⟨2, .phase⟩, ⟨3, .phase⟩, ⟨4, .phase⟩, ⟨5, .phase⟩, ⟨6, .phase⟩, ⟨7, .phase⟩, ⟨8, .phase⟩, ⟨9, .phase⟩, ⟨10, .phase⟩, ⟨11, .phase⟩], none⟩
def rde2_o13 : Oper := ⟨some 21, .fieldAddr 95 (.tmp 20) 1, 0, "ref.go:110", #[⟨12, .data⟩, ⟨0, .phase⟩, ⟨1, .phase⟩, ⟨2, .phase⟩, ⟨3, .phase⟩, ⟨4, .phase⟩, ⟨5, .phase⟩, ⟨6, .phase⟩, ⟨7, .phase⟩, ⟨8, .phase⟩, ⟨9, .phase⟩, ⟨10, .phase⟩, ⟨11, .phase⟩], none⟩
def rde2_o14 : Oper := ⟨none, .store 93 (.tmp 21) (.tmp 19), 0, "ref.go:110", #[⟨13, .data⟩, ⟨11, .data⟩, ⟨11, .chain⟩, ⟨0, .phase⟩, ⟨1, .phase⟩, ⟨2, .phase⟩, ⟨3, .phase⟩, ⟨4, .phase⟩, ⟨5, .phase⟩, ⟨6, .phase⟩, ⟨7, .phase⟩, ⟨8, .phase⟩, ⟨9, .phase⟩, ⟨10, .phase⟩, ⟨11, .phase⟩], none⟩
def rde2_ops : Array Oper := #[rde2_o0, rde2_o1, rde2_o2, rde2_o3, rde2_o4, rde2_o5, rde2_o6, rde2_o7, rde2_o8, rde2_o9, rde2_o10, rde2_o11, rde2_o12, rde2_o13, rde2_o14]
theorem rde2 {d : Nat} {pv sv : Value} (S Fin : World → Prop) (a : Act) (w : World) (Q : Exit → Act → World → Prop) (zz : a.tmps.size = 29)
    (t0 : a.tmps.getD 0 undef = .pointer (some ⟨d, 0, none⟩))
    (h0 : S w.drew) (L1 : ∀ W, S W → (Instr.loadAt 93 (.pointer (some ⟨d, 0 + 1, none⟩))).run Tryz.prog W = .ok (pv) W) (L2 : ∀ W, S W → (Instr.loadAt 92 (.pointer (some ⟨d, 0 + 0, none⟩))).run Tryz.prog W = .ok (sv) W) (CC : Calls Tryz.prog 71 #[sv] w.drew fun e w' => ∃ u bv w1 pv2 w2 w3, e = .returned u ∧ S w' ∧ (Instr.buildSlice 93 1 #[(0, u)]).run Tryz.prog w' = .ok bv w1 ∧ S w1 ∧ (Builtin.append_ #[93, 93] 93 #[pv, bv]).run Tryz.prog w1 = .ok pv2 w2 ∧ S w2 ∧ (Instr.storeAt 93 (.pointer (some ⟨d, 0 + 1, none⟩)) pv2).run Tryz.prog w2 = .ok () w3 ∧ Fin w3)
    (h : ∀ (u bv pv2 : Value) (a' : Act) (w' : World), Fin w' → a' = ((((((((((((((a).put (some 8) (.pointer (some ⟨d, 0, none⟩))).put (some 9) (.pointer (some ⟨d, 0, none⟩))).put (some 10) (.pointer (some ⟨d, 0, none⟩))).put (some 11) (.pointer (some ⟨d, 0 + 1, none⟩))).put (some 12) (pv)).put (some 13) (.pointer (some ⟨d, 0, none⟩))).put (some 14) (.pointer (some ⟨d, 0, none⟩))).put (some 15) (.pointer (some ⟨d, 0 + 0, none⟩))).put (some 16) (sv)).put (some 17) (u)).put (some 18) (bv)).put (some 19) (pv2)).put (some 20) (.pointer (some ⟨d, 0, none⟩))).put (some 21) (.pointer (some ⟨d, 0 + 1, none⟩)) → Q .normal a' w') :
    (Code.region 2 rde2_ops true).wp Tryz.prog Q a w := by
  refine x0 14 (fun w' => S w') (h0) (fun hHeld => ?_)
  refine xv 0 rfl rfl (fun w1 hw => exec_move rfl (zi t0 rfl)) hHeld ?_
  refine xv 1 rfl rfl (fun w1 hw => exec_move rfl (zi t0 rfl)) hHeld ?_
  refine xv 2 rfl rfl (fun w1 hw => exec_nilCheck rfl (zg zz rfl)) hHeld ?_
  refine xv 3 rfl rfl (fun w1 hw => exec_fieldAt rfl (zg zz rfl) (fg_95_1 _ _ _)) hHeld ?_
  refine xv 4 rfl rfl (fun w1 hw => exec_load rfl (zg zz rfl) (L1 _ hw)) hHeld ?_
  refine xv 5 rfl rfl (fun w1 hw => exec_move rfl (zi t0 rfl)) hHeld ?_
  refine xv 6 rfl rfl (fun w1 hw => exec_nilCheck rfl (zg zz rfl)) hHeld ?_
  refine xv 7 rfl rfl (fun w1 hw => exec_fieldAt rfl (zg zz rfl) (fg_95_0 _ _ _)) hHeld ?_
  refine xv 8 rfl rfl (fun w1 hw => exec_load rfl (zg zz rfl) (L2 _ hw)) hHeld ?_
  refine xc 9 rfl rfl (exec_c1 rfl (zg zz rfl)) (CC) (fun e x9 hx => ?_)
  obtain ⟨u, bv, w1, pv2, w2, w3, rfl, S0, E1, S1, E2, S2, E3, HF⟩ := hx
  replace h := h u bv pv2
  refine ⟨_, rfl, fun _ => S0, fun hHeld => ?_⟩
  replace hHeld := hHeld (by decide)
  refine xr (v := bv) 10 rfl rfl (exec_buildSlice rfl (zg zz rfl) E1) (fun _ => S1) (fun hHeld => ?_)
  replace hHeld := hHeld (by decide)
  refine xr (v := pv2) 11 rfl rfl (exec_append rfl (zg zz rfl) (zg zz rfl) E2) (fun _ => S2) (fun hHeld => ?_)
  replace hHeld := hHeld (by decide)
  refine xv 12 rfl rfl (fun w1 hw => exec_nilCheck rfl (zg zz rfl)) hHeld ?_
  refine xv 13 rfl rfl (fun w1 hw => exec_fieldAt rfl (zg zz rfl) (fg_95_1 _ _ _)) hHeld ?_
  refine xs 14 rfl rfl (exec_store rfl (zg zz rfl) (zg zz rfl) E3) (fun hne => absurd rfl hne) (fun _ => ?_)
  exact xe rfl (h _ _ (HF) rfl)
def rde3_o0 : Oper := ⟨some 22, .move (.tmp 0), 28, "ref.go:111", #[], none⟩
def rde3_o1 : Oper := ⟨some 23, .load 68 (.tmp 4), 68, "ref.go:111", #[], none⟩
def rde3_o2 : Oper := ⟨some 24, .move (.tmp 0), 28, "ref.go:111", #[], none⟩
def rde3_o3 : Oper := ⟨some 25, .load 68 (.tmp 4), 68, "ref.go:111", #[], none⟩
def rde3_o4 : Oper := ⟨some 26, .move (.tmp 2), 64, "ref.go:111", #[], none⟩
def rde3_o5 : Oper := ⟨some 27, .call { callee := Callee.value (Operand.func 72), args := #[.tmp 24, .tmp 25, .tmp 26], argTypes := #[28, 68, 64] }, 71, "ref.go:111", #[⟨2, .data⟩, ⟨3, .data⟩, ⟨4, .data⟩], none⟩
def rde3_o6 : Oper := ⟨some 28, .call { callee := Callee.value (Operand.func 73), args := #[.tmp 22, .tmp 23, .tmp 27], argTypes := #[28, 68, 71] }, 0, "ref.go:111", #[⟨0, .data⟩, ⟨1, .data⟩, ⟨5, .data⟩, ⟨5, .chain⟩], none⟩
def rde3_ops : Array Oper := #[rde3_o0, rde3_o1, rde3_o2, rde3_o3, rde3_o4, rde3_o5, rde3_o6]
theorem rde3 {d pb : Nat} {sv : Value} {p : PlK} (S Fin : World → Prop) (a : Act) (w : World) (Q : Exit → Act → World → Prop) (zz : a.tmps.size = 29)
    (t0 : a.tmps.getD 0 undef = .pointer (some ⟨d, 0, none⟩))
    (t2 : a.tmps.getD 2 undef = sv)
    (t4 : a.tmps.getD 4 undef = .pointer (some ⟨pb, 0, none⟩))
    (h0 : S w.drew) (LP : ∀ W, S W → (Instr.loadAt 68 (.pointer (some ⟨pb, 0, none⟩))).run Tryz.prog W = .ok (p.v) W) (CL : Calls Tryz.prog 72 #[.pointer (some ⟨d, 0, none⟩), p.v, sv] w.drew fun e w1 => ∃ u, e = .returned u ∧ S w1 ∧ Calls Tryz.prog 73 #[.pointer (some ⟨d, 0, none⟩), p.v, u] w1 fun e w' => e = .returned (.tuple #[]) ∧ Fin w')
    (h : ∀ (u : Value) (a' : Act) (w' : World), Fin w' → a' = (((((((a).put (some 22) (.pointer (some ⟨d, 0, none⟩))).put (some 23) (p.v)).put (some 24) (.pointer (some ⟨d, 0, none⟩))).put (some 25) (p.v)).put (some 26) (sv)).put (some 27) (u)).put (some 28) (.tuple #[]) → Q .normal a' w') :
    (Code.region 3 rde3_ops true).wp Tryz.prog Q a w := by
  refine x0 6 (fun w' => S w') (h0) (fun hHeld => ?_)
  refine xv 0 rfl rfl (fun w1 hw => exec_move rfl (zi t0 rfl)) hHeld ?_
  refine xv 1 rfl rfl (fun w1 hw => exec_load rfl (zi t4 rfl) (LP _ hw)) hHeld ?_
  refine xv 2 rfl rfl (fun w1 hw => exec_move rfl (zi t0 rfl)) hHeld ?_
  refine xv 3 rfl rfl (fun w1 hw => exec_load rfl (zi t4 rfl) (LP _ hw)) hHeld ?_
  refine xv 4 rfl rfl (fun w1 hw => exec_move rfl (zi t2 rfl)) hHeld ?_
  refine xc 5 rfl rfl (exec_c3 rfl (zg zz rfl) (zg zz rfl) (zg zz rfl)) (CL) (fun e x5 hx => ?_)
  obtain ⟨u, rfl, S1, CS⟩ := hx
  replace h := h u
  refine ⟨_, rfl, fun _ => S1, fun hHeld => ?_⟩
  replace hHeld := hHeld (by decide)
  refine xc 6 rfl rfl (exec_c3 rfl (zg zz rfl) (zg zz rfl) (zg zz rfl)) (CS) (fun e x6 hx => ?_)
  obtain ⟨rfl, HF⟩ := hx
  refine ⟨_, rfl, fun hne => absurd rfl hne, fun _ => ?_⟩
  exact xe rfl (h _ _ (HF) rfl)
def rad2_o0 : Oper := ⟨some 12, .move (.tmp 0), 28, "ref.go:118", #[], none⟩
def rad2_o1 : Oper := ⟨some 13, .move (.tmp 0), 28, "ref.go:118", #[], none⟩
def rad2_o2 : Oper := ⟨some 14, .nilCheck (.tmp 13), 0, "ref.go:118", #[⟨1, .data⟩], none⟩
def rad2_o3 : Oper := ⟨some 15, .fieldAddr 95 (.tmp 14) 1, 0, "ref.go:118", #[⟨2, .data⟩], none⟩
def rad2_o4 : Oper := ⟨some 16, .load 93 (.tmp 15), 93, "ref.go:118", #[⟨3, .data⟩], none⟩
def rad2_o5 : Oper := ⟨some 17, .move (.tmp 0), 28, "ref.go:118", #[], none⟩
def rad2_o6 : Oper := ⟨some 18, .nilCheck (.tmp 17), 0, "ref.go:118", #[⟨5, .data⟩], none⟩
def rad2_o7 : Oper := ⟨some 19, .fieldAddr 95 (.tmp 18) 0, 0, "ref.go:118", #[⟨6, .data⟩], none⟩
def rad2_o8 : Oper := ⟨some 20, .load 92 (.tmp 19), 92, "ref.go:118", #[⟨7, .data⟩], none⟩
def rad2_o9 : Oper := ⟨some 21, .call { callee := Callee.value (Operand.func 71), args := #[.tmp 20], argTypes := #[92] }, 92, "ref.go:118", #[⟨8, .data⟩], none⟩
def rad2_o10 : Oper := ⟨some 22, .buildSlice 93 1 #[(0, .tmp 21)], 93, "ref.go:118", #[⟨9, .data⟩], none⟩
def rad2_o11 : Oper := ⟨some 23, .call { callee := Callee.builtin Builtin.append, args := #[.tmp 16, .tmp 22], argTypes := #[93, 93] }, 93, "ref.go:118", #[⟨4, .data⟩, ⟨10, .data⟩, ⟨9, .chain⟩], none⟩
def rad2_o12 : Oper := ⟨some 24, .nilCheck (.tmp 12), 0, "ref.go:118", #[⟨0, .data⟩, ⟨0, .phase⟩, ⟨1, .phase⟩, ⟨2, .phase⟩, ⟨3, .phase⟩, ⟨4, .phase⟩, ⟨5, .phase⟩, ⟨6, .phase⟩, ⟨7, .phase⟩, ⟨8, .phase⟩, ⟨9, .phase⟩, ⟨10, .phase⟩, ⟨11, .phase⟩], none⟩
def rad2_o13 : Oper := ⟨some 25, .fieldAddr 95 (.tmp 24) 1, 0, "ref.go:118", #[⟨12, .data⟩, ⟨0, .phase⟩, ⟨1, .phase⟩, ⟨2, .phase⟩, ⟨3, .phase⟩, ⟨4, .phase⟩, ⟨5, .phase⟩, ⟨6, .phase⟩, ⟨7, .phase⟩, ⟨8, .phase⟩, ⟨9, .phase⟩, ⟨10, .phase⟩, ⟨11, .phase⟩], none⟩
def rad2_o14 : Oper := ⟨none, .store 93 (.tmp 25) (.tmp 23), 0, "ref.go:118", #[⟨13, .data⟩, ⟨11, .data⟩, ⟨11, .chain⟩, ⟨0, .phase⟩, ⟨1, .phase⟩, ⟨2, .phase⟩, ⟨3, .phase⟩, ⟨4, .phase⟩, ⟨5, .phase⟩, ⟨6, .phase⟩, ⟨7, .phase⟩, ⟨8, .phase⟩, ⟨9, .phase⟩, ⟨10, .phase⟩, ⟨11, .phase⟩], none⟩
def rad2_ops : Array Oper := #[rad2_o0, rad2_o1, rad2_o2, rad2_o3, rad2_o4, rad2_o5, rad2_o6, rad2_o7, rad2_o8, rad2_o9, rad2_o10, rad2_o11, rad2_o12, rad2_o13, rad2_o14]
theorem rad2 {d : Nat} {pv sv : Value} (S Fin : World → Prop) (a : Act) (w : World) (Q : Exit → Act → World → Prop) (zz : a.tmps.size = 57)
    (t0 : a.tmps.getD 0 undef = .pointer (some ⟨d, 0, none⟩))
    (h0 : S w.drew) (L1 : ∀ W, S W → (Instr.loadAt 93 (.pointer (some ⟨d, 0 + 1, none⟩))).run Tryz.prog W = .ok (pv) W) (L2 : ∀ W, S W → (Instr.loadAt 92 (.pointer (some ⟨d, 0 + 0, none⟩))).run Tryz.prog W = .ok (sv) W) (CC : Calls Tryz.prog 71 #[sv] w.drew fun e w' => ∃ u bv w1 pv2 w2 w3, e = .returned u ∧ S w' ∧ (Instr.buildSlice 93 1 #[(0, u)]).run Tryz.prog w' = .ok bv w1 ∧ S w1 ∧ (Builtin.append_ #[93, 93] 93 #[pv, bv]).run Tryz.prog w1 = .ok pv2 w2 ∧ S w2 ∧ (Instr.storeAt 93 (.pointer (some ⟨d, 0 + 1, none⟩)) pv2).run Tryz.prog w2 = .ok () w3 ∧ Fin w3)
    (h : ∀ (u bv pv2 : Value) (a' : Act) (w' : World), Fin w' → a' = ((((((((((((((a).put (some 12) (.pointer (some ⟨d, 0, none⟩))).put (some 13) (.pointer (some ⟨d, 0, none⟩))).put (some 14) (.pointer (some ⟨d, 0, none⟩))).put (some 15) (.pointer (some ⟨d, 0 + 1, none⟩))).put (some 16) (pv)).put (some 17) (.pointer (some ⟨d, 0, none⟩))).put (some 18) (.pointer (some ⟨d, 0, none⟩))).put (some 19) (.pointer (some ⟨d, 0 + 0, none⟩))).put (some 20) (sv)).put (some 21) (u)).put (some 22) (bv)).put (some 23) (pv2)).put (some 24) (.pointer (some ⟨d, 0, none⟩))).put (some 25) (.pointer (some ⟨d, 0 + 1, none⟩)) → Q .normal a' w') :
    (Code.region 2 rad2_ops true).wp Tryz.prog Q a w := by
  refine x0 14 (fun w' => S w') (h0) (fun hHeld => ?_)
  refine xv 0 rfl rfl (fun w1 hw => exec_move rfl (zi t0 rfl)) hHeld ?_
  refine xv 1 rfl rfl (fun w1 hw => exec_move rfl (zi t0 rfl)) hHeld ?_
  refine xv 2 rfl rfl (fun w1 hw => exec_nilCheck rfl (zg zz rfl)) hHeld ?_
  refine xv 3 rfl rfl (fun w1 hw => exec_fieldAt rfl (zg zz rfl) (fg_95_1 _ _ _)) hHeld ?_
  refine xv 4 rfl rfl (fun w1 hw => exec_load rfl (zg zz rfl) (L1 _ hw)) hHeld ?_
  refine xv 5 rfl rfl (fun w1 hw => exec_move rfl (zi t0 rfl)) hHeld ?_
  refine xv 6 rfl rfl (fun w1 hw => exec_nilCheck rfl (zg zz rfl)) hHeld ?_
  refine xv 7 rfl rfl (fun w1 hw => exec_fieldAt rfl (zg zz rfl) (fg_95_0 _ _ _)) hHeld ?_
  refine xv 8 rfl rfl (fun w1 hw => exec_load rfl (zg zz rfl) (L2 _ hw)) hHeld ?_
  refine xc 9 rfl rfl (exec_c1 rfl (zg zz rfl)) (CC) (fun e x9 hx => ?_)
  obtain ⟨u, bv, w1, pv2, w2, w3, rfl, S0, E1, S1, E2, S2, E3, HF⟩ := hx
  replace h := h u bv pv2
  refine ⟨_, rfl, fun _ => S0, fun hHeld => ?_⟩
  replace hHeld := hHeld (by decide)
  refine xr (v := bv) 10 rfl rfl (exec_buildSlice rfl (zg zz rfl) E1) (fun _ => S1) (fun hHeld => ?_)
  replace hHeld := hHeld (by decide)
  refine xr (v := pv2) 11 rfl rfl (exec_append rfl (zg zz rfl) (zg zz rfl) E2) (fun _ => S2) (fun hHeld => ?_)
  replace hHeld := hHeld (by decide)
  refine xv 12 rfl rfl (fun w1 hw => exec_nilCheck rfl (zg zz rfl)) hHeld ?_
  refine xv 13 rfl rfl (fun w1 hw => exec_fieldAt rfl (zg zz rfl) (fg_95_1 _ _ _)) hHeld ?_
  refine xs 14 rfl rfl (exec_store rfl (zg zz rfl) (zg zz rfl) E3) (fun hne => absurd rfl hne) (fun _ => ?_)
  exact xe rfl (h _ _ (HF) rfl)
def rad3_o0 : Oper := ⟨some 26, .move (.tmp 0), 28, "ref.go:119", #[], none⟩
def rad3_o1 : Oper := ⟨some 27, .load 68 (.tmp 5), 68, "ref.go:119", #[], none⟩
def rad3_o2 : Oper := ⟨some 28, .call { callee := Callee.value (Operand.func 52), args := #[.tmp 26, .tmp 27], argTypes := #[28, 68] }, 71, "ref.go:119", #[⟨0, .data⟩, ⟨1, .data⟩], none⟩
def rad3_o3 : Oper := ⟨some 8, .assign (.tmp 28), 71, "ref.go:119", #[⟨2, .data⟩, ⟨2, .chain⟩, ⟨0, .phase⟩, ⟨1, .phase⟩, ⟨2, .phase⟩], none⟩
def rad3_ops : Array Oper := #[rad3_o0, rad3_o1, rad3_o2, rad3_o3]
theorem rad3 {d pb : Nat} {p : PlK} (Fin : Value → World → Prop) (a : Act) (w : World) (Q : Exit → Act → World → Prop) (zz : a.tmps.size = 57)
    (t0 : a.tmps.getD 0 undef = .pointer (some ⟨d, 0, none⟩))
    (t5 : a.tmps.getD 5 undef = .pointer (some ⟨pb, 0, none⟩))
    (LP : ∀ W, W = w → (Instr.loadAt 68 (.pointer (some ⟨pb, 0, none⟩))).run Tryz.prog W = .ok (p.v) W) (CL : Calls Tryz.prog 52 #[.pointer (some ⟨d, 0, none⟩), p.v] w fun e w' => ∃ u, e = .returned u ∧ Fin u w')
    (h : ∀ (u : Value) (a' : Act) (w' : World), Fin u w' → a' = ((((a).put (some 26) (.pointer (some ⟨d, 0, none⟩))).put (some 27) (p.v)).put (some 28) (u)).put (some 8) (u) → Q .normal a' w') :
    (Code.region 3 rad3_ops false).wp Tryz.prog Q a w := by
  refine z0 rfl ?_
  refine zv rfl (exec_move rfl (zi t0 rfl)) ?_
  refine zv rfl (exec_load rfl (zi t5 rfl) (LP _ rfl)) ?_
  refine zc rfl (exec_c2 rfl (zg zz rfl) (zg zz rfl)) (CL) (fun e x2 hx => ?_)
  obtain ⟨u, rfl, HF⟩ := hx
  replace h := h u
  refine ⟨_, rfl, ?_⟩
  refine zv rfl (exec_assign rfl (zg zz rfl)) ?_
  exact ze rfl (h _ _ (HF) rfl)
def rad7_o0 : Oper := ⟨some 35, .move (.tmp 3), 64, "ref.go:121", #[], none⟩
def rad7_o1 : Oper := ⟨some 36, .move (.tmp 8), 71, "ref.go:121", #[], none⟩
def rad7_o2 : Oper := ⟨some 37, .move (.tmp 9), 3, "ref.go:121", #[], none⟩
def rad7_o3 : Oper := ⟨some 38, .indexAddr 71 (.tmp 36) (.tmp 37), 0, "ref.go:121", #[⟨1, .data⟩, ⟨2, .data⟩], none⟩
def rad7_o4 : Oper := ⟨some 39, .fieldAddr 85 (.tmp 38) 0, 0, "ref.go:121", #[⟨3, .data⟩], none⟩
def rad7_o5 : Oper := ⟨some 40, .load 59 (.tmp 39), 59, "ref.go:121", #[⟨4, .data⟩], none⟩
def rad7_o6 : Oper := ⟨some 41, .call { callee := Callee.value (Operand.func 23), args := #[.tmp 35, .tmp 40], argTypes := #[64, 59] }, 4, "ref.go:121", #[⟨0, .data⟩, ⟨5, .data⟩], none⟩
def rad7_ops : Array Oper := #[rad7_o0, rad7_o1, rad7_o2, rad7_o3, rad7_o4, rad7_o5, rad7_o6]
theorem rad7 {g o n c i : Nat} {x : EnV} {sv : Value} {r : Bool} (Fin : World → Prop) (a : Act) (w : World) (Q : Exit → Act → World → Prop) (zz : a.tmps.size = 57)
    (t3 : a.tmps.getD 3 undef = sv)
    (t8 : a.tmps.getD 8 undef = .slice (some ⟨g, o, none⟩) n c)
    (t9 : a.tmps.getD 9 undef = .int .i64 (i : Int))
    (hi : i < n) (hm : n ≤ 9223372036854775807) (L1 : ∀ W, W = w → (Instr.loadAt 59 (.pointer (some ⟨g, o + 37 * i + 0, none⟩))).run Tryz.prog W = .ok (x.id.v) W) (CS : Calls Tryz.prog 23 #[sv, x.id.v] w fun e w' => e = .returned (.bool r) ∧ Fin w')
    (h : ∀ (a' : Act) (w' : World), Fin w' → a' = (((((((a).put (some 35) (sv)).put (some 36) (.slice (some ⟨g, o, none⟩) n c)).put (some 37) (.int .i64 (i : Int))).put (some 38) (.pointer (some ⟨g, o + 37 * i, none⟩))).put (some 39) (.pointer (some ⟨g, o + 37 * i + 0, none⟩))).put (some 40) (x.id.v)).put (some 41) (.bool r) → Q .normal a' w') :
    (Code.region 7 rad7_ops false).wp Tryz.prog Q a w := by
  refine z0 rfl ?_
  refine zv rfl (exec_move rfl (zi t3 rfl)) ?_
  refine zv rfl (exec_move rfl (zi t8 rfl)) ?_
  refine zv rfl (exec_move rfl (zi t9 rfl)) ?_
  refine zv rfl (exec_indexAt rfl (zg zz rfl) (zg zz rfl) (ix_en hi hm _)) ?_
  refine zv rfl (exec_fieldAt rfl (zg zz rfl) (fg_85_0 _ _ _)) ?_
  refine zv rfl (exec_load rfl (zg zz rfl) (L1 _ rfl)) ?_
  refine zc rfl (exec_c2 rfl (zg zz rfl) (zg zz rfl)) (CS) (fun e x6 hx => ?_)
  obtain ⟨rfl, HF⟩ := hx
  refine ⟨_, rfl, ?_⟩
  exact ze rfl (h _ _ (HF) rfl)
def rad8_o0 : Oper := ⟨some 42, .move (.tmp 8), 71, "ref.go:122", #[], none⟩
def rad8_o1 : Oper := ⟨some 43, .move (.tmp 9), 3, "ref.go:122", #[], none⟩
def rad8_o2 : Oper := ⟨some 44, .move (.tmp 8), 71, "ref.go:122", #[], none⟩
def rad8_o3 : Oper := ⟨some 45, .move (.tmp 9), 3, "ref.go:122", #[], none⟩
def rad8_o4 : Oper := ⟨some 46, .indexAddr 71 (.tmp 44) (.tmp 45), 0, "ref.go:122", #[⟨2, .data⟩, ⟨3, .data⟩], none⟩
def rad8_o5 : Oper := ⟨some 47, .fieldAddr 85 (.tmp 46) 1, 0, "ref.go:122", #[⟨4, .data⟩], none⟩
def rad8_o6 : Oper := ⟨some 48, .load 63 (.tmp 47), 63, "ref.go:122", #[⟨5, .data⟩], none⟩
def rad8_o7 : Oper := ⟨some 49, .move (.tmp 2), 2, "ref.go:122", #[], none⟩
def rad8_o8 : Oper := ⟨some 50, .call { callee := Callee.value (Operand.func 75), args := #[.tmp 48, .tmp 49], argTypes := #[63, 2] }, 63, "ref.go:122", #[⟨6, .data⟩, ⟨7, .data⟩], none⟩
def rad8_o9 : Oper := ⟨some 51, .indexAddr 71 (.tmp 42) (.tmp 43), 0, "ref.go:122", #[⟨0, .data⟩, ⟨1, .data⟩, ⟨0, .phase⟩, ⟨1, .phase⟩, ⟨2, .phase⟩, ⟨3, .phase⟩, ⟨4, .phase⟩, ⟨5, .phase⟩, ⟨6, .phase⟩, ⟨7, .phase⟩, ⟨8, .phase⟩], none⟩
def rad8_o10 : Oper := ⟨some 52, .fieldAddr 85 (.tmp 51) 1, 0, "ref.go:122", #[⟨9, .data⟩, ⟨0, .phase⟩, ⟨1, .phase⟩, ⟨2, .phase⟩, ⟨3, .phase⟩, ⟨4, .phase⟩, ⟨5, .phase⟩, ⟨6, .phase⟩, ⟨7, .phase⟩, ⟨8, .phase⟩], none⟩
def rad8_o11 : Oper := ⟨none, .store 63 (.tmp 52) (.tmp 50), 0, "ref.go:122", #[⟨10, .data⟩, ⟨8, .data⟩, ⟨8, .chain⟩, ⟨0, .phase⟩, ⟨1, .phase⟩, ⟨2, .phase⟩, ⟨3, .phase⟩, ⟨4, .phase⟩, ⟨5, .phase⟩, ⟨6, .phase⟩, ⟨7, .phase⟩, ⟨8, .phase⟩], none⟩
def rad8_ops : Array Oper := #[rad8_o0, rad8_o1, rad8_o2, rad8_o3, rad8_o4, rad8_o5, rad8_o6, rad8_o7, rad8_o8, rad8_o9, rad8_o10, rad8_o11]
theorem rad8 {g o n c i : Nat} {m : Int} {x : EnV} {y : VaV} (Fin : World → Prop) (a : Act) (w : World) (Q : Exit → Act → World → Prop) (zz : a.tmps.size = 57)
    (t2 : a.tmps.getD 2 undef = .int .i64 m)
    (t8 : a.tmps.getD 8 undef = .slice (some ⟨g, o, none⟩) n c)
    (t9 : a.tmps.getD 9 undef = .int .i64 (i : Int))
    (hi : i < n) (hm : n ≤ 9223372036854775807) (L1 : ∀ W, W = w → (Instr.loadAt 63 (.pointer (some ⟨g, o + 37 * i + 33, none⟩))).run Tryz.prog W = .ok (x.v.v) W) (CS : Calls Tryz.prog 75 #[x.v.v, .int .i64 m] w fun e w' => e = .returned y.v ∧ ∃ w1, (Instr.storeAt 63 (.pointer (some ⟨g, o + 37 * i + 33, none⟩)) y.v).run Tryz.prog w' = .ok () w1 ∧ Fin w1)
    (h : ∀ (a' : Act) (w' : World), Fin w' → a' = (((((((((((a).put (some 42) (.slice (some ⟨g, o, none⟩) n c)).put (some 43) (.int .i64 (i : Int))).put (some 44) (.slice (some ⟨g, o, none⟩) n c)).put (some 45) (.int .i64 (i : Int))).put (some 46) (.pointer (some ⟨g, o + 37 * i, none⟩))).put (some 47) (.pointer (some ⟨g, o + 37 * i + 33, none⟩))).put (some 48) (x.v.v)).put (some 49) (.int .i64 m)).put (some 50) (y.v)).put (some 51) (.pointer (some ⟨g, o + 37 * i, none⟩))).put (some 52) (.pointer (some ⟨g, o + 37 * i + 33, none⟩)) → Q .normal a' w') :
    (Code.region 8 rad8_ops false).wp Tryz.prog Q a w := by
  refine z0 rfl ?_
  refine zv rfl (exec_move rfl (zi t8 rfl)) ?_
  refine zv rfl (exec_move rfl (zi t9 rfl)) ?_
  refine zv rfl (exec_move rfl (zi t8 rfl)) ?_
  refine zv rfl (exec_move rfl (zi t9 rfl)) ?_
  refine zv rfl (exec_indexAt rfl (zg zz rfl) (zg zz rfl) (ix_en hi hm _)) ?_
  refine zv rfl (exec_fieldAt rfl (zg zz rfl) (fg_85_1 _ _ _)) ?_
  refine zv rfl (exec_load rfl (zg zz rfl) (L1 _ rfl)) ?_
  refine zv rfl (exec_move rfl (zi t2 rfl)) ?_
  refine zc rfl (exec_c2 rfl (zg zz rfl) (zg zz rfl)) (CS) (fun e x8 hx => ?_)
  obtain ⟨rfl, w1, E1, HF⟩ := hx
  refine ⟨_, rfl, ?_⟩
  refine zv rfl (exec_indexAt rfl (zg zz rfl) (zg zz rfl) (ix_en hi hm _)) ?_
  refine zv rfl (exec_fieldAt rfl (zg zz rfl) (fg_85_1 _ _ _)) ?_
  refine zs rfl (exec_store rfl (zg zz rfl) (zg zz rfl) E1) ?_
  exact ze rfl (h _ _ (HF) rfl)
def rad9_o0 : Oper := ⟨some 53, .move (.tmp 0), 28, "ref.go:125", #[], none⟩
def rad9_o1 : Oper := ⟨some 54, .load 68 (.tmp 5), 68, "ref.go:125", #[], none⟩
def rad9_o2 : Oper := ⟨some 55, .move (.tmp 8), 71, "ref.go:125", #[], none⟩
def rad9_o3 : Oper := ⟨some 56, .call { callee := Callee.value (Operand.func 73), args := #[.tmp 53, .tmp 54, .tmp 55], argTypes := #[28, 68, 71] }, 0, "ref.go:125", #[⟨0, .data⟩, ⟨1, .data⟩, ⟨2, .data⟩], none⟩
def rad9_ops : Array Oper := #[rad9_o0, rad9_o1, rad9_o2, rad9_o3]
theorem rad9 {d pb : Nat} {lv : Value} {p : PlK} (Fin : World → Prop) (a : Act) (w : World) (Q : Exit → Act → World → Prop) (zz : a.tmps.size = 57)
    (t0 : a.tmps.getD 0 undef = .pointer (some ⟨d, 0, none⟩))
    (t5 : a.tmps.getD 5 undef = .pointer (some ⟨pb, 0, none⟩))
    (t8 : a.tmps.getD 8 undef = lv)
    (LP : ∀ W, W = w → (Instr.loadAt 68 (.pointer (some ⟨pb, 0, none⟩))).run Tryz.prog W = .ok (p.v) W) (CS : Calls Tryz.prog 73 #[.pointer (some ⟨d, 0, none⟩), p.v, lv] w fun e w' => e = .returned (.tuple #[]) ∧ Fin w')
    (h : ∀ (a' : Act) (w' : World), Fin w' → a' = ((((a).put (some 53) (.pointer (some ⟨d, 0, none⟩))).put (some 54) (p.v)).put (some 55) (lv)).put (some 56) (.tuple #[]) → Q .normal a' w') :
    (Code.region 9 rad9_ops false).wp Tryz.prog Q a w := by
  refine z0 rfl ?_
  refine zv rfl (exec_move rfl (zi t0 rfl)) ?_
  refine zv rfl (exec_load rfl (zi t5 rfl) (LP _ rfl)) ?_
  refine zv rfl (exec_move rfl (zi t8 rfl)) ?_
  refine zc rfl (exec_c3 rfl (zg zz rfl) (zg zz rfl) (zg zz rfl)) (CS) (fun e x3 hx => ?_)
  obtain ⟨rfl, HF⟩ := hx
  refine ⟨_, rfl, ?_⟩
  exact ze rfl (h _ _ (HF) rfl)
def run5_o0 : Oper := ⟨some 18, .move (.tmp 0), 28, "ref.go:136", #[], none⟩
def run5_o1 : Oper := ⟨some 19, .move (.tmp 0), 28, "ref.go:136", #[], none⟩
def run5_o2 : Oper := ⟨some 20, .nilCheck (.tmp 19), 0, "ref.go:136", #[⟨1, .data⟩], none⟩
def run5_o3 : Oper := ⟨some 21, .fieldAddr 95 (.tmp 20) 1, 0, "ref.go:136", #[⟨2, .data⟩], none⟩
def run5_o4 : Oper := ⟨some 22, .load 93 (.tmp 21), 93, "ref.go:136", #[⟨3, .data⟩], none⟩
def run5_o5 : Oper := ⟨some 23, .move (.tmp 1), 3, "ref.go:136", #[], none⟩
def run5_o6 : Oper := ⟨some 24, .binOp BinOp.sub 3 (.tmp 23) (Operand.const (Value.int IntKind.i64 1)) 3, 3, "ref.go:136", #[⟨5, .data⟩], none⟩
def run5_o7 : Oper := ⟨some 25, .indexAddr 93 (.tmp 22) (.tmp 24), 0, "ref.go:136", #[⟨4, .data⟩, ⟨6, .data⟩], none⟩
def run5_o8 : Oper := ⟨some 26, .load 92 (.tmp 25), 92, "ref.go:136", #[⟨7, .data⟩], none⟩
def run5_o9 : Oper := ⟨some 27, .nilCheck (.tmp 18), 0, "ref.go:136", #[⟨0, .data⟩, ⟨0, .phase⟩, ⟨1, .phase⟩, ⟨2, .phase⟩, ⟨3, .phase⟩, ⟨4, .phase⟩, ⟨5, .phase⟩, ⟨6, .phase⟩, ⟨7, .phase⟩, ⟨8, .phase⟩], none⟩
def run5_o10 : Oper := ⟨some 28, .fieldAddr 95 (.tmp 27) 0, 0, "ref.go:136", #[⟨9, .data⟩, ⟨0, .phase⟩, ⟨1, .phase⟩, ⟨2, .phase⟩, ⟨3, .phase⟩, ⟨4, .phase⟩, ⟨5, .phase⟩, ⟨6, .phase⟩, ⟨7, .phase⟩, ⟨8, .phase⟩], none⟩
def run5_o11 : Oper := ⟨none, .store 92 (.tmp 28) (.tmp 26), 0, "ref.go:136", #[⟨10, .data⟩, ⟨8, .data⟩, ⟨0, .phase⟩, ⟨1, .phase⟩, ⟨2, .phase⟩, ⟨3, .phase⟩, ⟨4, .phase⟩, ⟨5, .phase⟩, ⟨6, .phase⟩, ⟨7, .phase⟩, ⟨8, .phase⟩], none⟩
def run5_ops : Array Oper := #[run5_o0, run5_o1, run5_o2, run5_o3, run5_o4, run5_o5, run5_o6, run5_o7, run5_o8, run5_o9, run5_o10, run5_o11]
theorem run5 {d g o n c k : Nat} {u : Value} {w1 : World} (a : Act) (w : World) (Q : Exit → Act → World → Prop) (zz : a.tmps.size = 39)
    (t0 : a.tmps.getD 0 undef = .pointer (some ⟨d, 0, none⟩))
    (t1 : a.tmps.getD 1 undef = .int .i64 (n : Int))
    (hd : k + 1 = n) (hs : n ≤ 9223372036854775800) (hi : k < n) (hm : n ≤ 9223372036854775807) (L1 : ∀ W, W = w → (Instr.loadAt 93 (.pointer (some ⟨d, 0 + 1, none⟩))).run Tryz.prog W = .ok (.slice (some ⟨g, o, none⟩) n c) W) (L2 : ∀ W, W = w → (Instr.loadAt 92 (.pointer (some ⟨g, o + k, none⟩))).run Tryz.prog W = .ok (u) W) (E1 : (Instr.storeAt 92 (.pointer (some ⟨d, 0 + 0, none⟩)) u).run Tryz.prog w = .ok () w1)
    (h : ∀ (a' : Act) (w' : World), w' = w1 → a' = (((((((((((a).put (some 18) (.pointer (some ⟨d, 0, none⟩))).put (some 19) (.pointer (some ⟨d, 0, none⟩))).put (some 20) (.pointer (some ⟨d, 0, none⟩))).put (some 21) (.pointer (some ⟨d, 0 + 1, none⟩))).put (some 22) (.slice (some ⟨g, o, none⟩) n c)).put (some 23) (.int .i64 (n : Int))).put (some 24) (.int .i64 (k : Int))).put (some 25) (.pointer (some ⟨g, o + k, none⟩))).put (some 26) (u)).put (some 27) (.pointer (some ⟨d, 0, none⟩))).put (some 28) (.pointer (some ⟨d, 0 + 0, none⟩)) → Q .normal a' w') :
    (Code.region 5 run5_ops false).wp Tryz.prog Q a w := by
  refine z0 rfl ?_
  refine zv rfl (exec_move rfl (zi t0 rfl)) ?_
  refine zv rfl (exec_move rfl (zi t0 rfl)) ?_
  refine zv rfl (exec_nilCheck rfl (zg zz rfl)) ?_
  refine zv rfl (exec_fieldAt rfl (zg zz rfl) (fg_95_1 _ _ _)) ?_
  refine zv rfl (exec_load rfl (zg zz rfl) (L1 _ rfl)) ?_
  refine zv rfl (exec_move rfl (zi t1 rfl)) ?_
  refine zv (v := .int .i64 (k : Int)) rfl (exec_sub1 rfl (zg zz rfl) rfl hd hs) ?_
  refine zv rfl (exec_indexAt rfl (zg zz rfl) (zg zz rfl) (ix_ps hi hm _)) ?_
  refine zv rfl (exec_load rfl (zg zz rfl) (L2 _ rfl)) ?_
  refine zv rfl (exec_nilCheck rfl (zg zz rfl)) ?_
  refine zv rfl (exec_fieldAt rfl (zg zz rfl) (fg_95_0 _ _ _)) ?_
  refine zs rfl (exec_store rfl (zg zz rfl) (zg zz rfl) E1) ?_
  exact ze rfl (h _ _ (rfl) rfl)
def run6_o0 : Oper := ⟨some 29, .move (.tmp 0), 28, "ref.go:137", #[], none⟩
def run6_o1 : Oper := ⟨some 30, .move (.tmp 0), 28, "ref.go:137", #[], none⟩
def run6_o2 : Oper := ⟨some 31, .nilCheck (.tmp 30), 0, "ref.go:137", #[⟨1, .data⟩], none⟩
def run6_o3 : Oper := ⟨some 32, .fieldAddr 95 (.tmp 31) 1, 0, "ref.go:137", #[⟨2, .data⟩], none⟩
def run6_o4 : Oper := ⟨some 33, .load 93 (.tmp 32), 93, "ref.go:137", #[⟨3, .data⟩], none⟩
def run6_o5 : Oper := ⟨some 34, .move (.tmp 1), 3, "ref.go:137", #[], none⟩
def run6_o6 : Oper := ⟨some 35, .binOp BinOp.sub 3 (.tmp 34) (Operand.const (Value.int IntKind.i64 1)) 3, 3, "ref.go:137", #[⟨5, .data⟩], none⟩
def run6_o7 : Oper := ⟨some 36, .slice 93 (.tmp 33) none (some (.tmp 35)) none, 93, "ref.go:137", #[⟨4, .data⟩, ⟨6, .data⟩], none⟩
def run6_o8 : Oper := ⟨some 37, .nilCheck (.tmp 29), 0, "ref.go:137", #[⟨0, .data⟩, ⟨0, .phase⟩, ⟨1, .phase⟩, ⟨2, .phase⟩, ⟨3, .phase⟩, ⟨4, .phase⟩, ⟨5, .phase⟩, ⟨6, .phase⟩, ⟨7, .phase⟩], none⟩
def run6_o9 : Oper := ⟨some 38, .fieldAddr 95 (.tmp 37) 1, 0, "ref.go:137", #[⟨8, .data⟩, ⟨0, .phase⟩, ⟨1, .phase⟩, ⟨2, .phase⟩, ⟨3, .phase⟩, ⟨4, .phase⟩, ⟨5, .phase⟩, ⟨6, .phase⟩, ⟨7, .phase⟩], none⟩
def run6_o10 : Oper := ⟨none, .store 93 (.tmp 38) (.tmp 36), 0, "ref.go:137", #[⟨9, .data⟩, ⟨7, .data⟩, ⟨0, .phase⟩, ⟨1, .phase⟩, ⟨2, .phase⟩, ⟨3, .phase⟩, ⟨4, .phase⟩, ⟨5, .phase⟩, ⟨6, .phase⟩, ⟨7, .phase⟩], none⟩
def run6_ops : Array Oper := #[run6_o0, run6_o1, run6_o2, run6_o3, run6_o4, run6_o5, run6_o6, run6_o7, run6_o8, run6_o9, run6_o10]
theorem run6 {d g o n c k : Nat} {pv2 : Value} {w1 : World} (a : Act) (w : World) (Q : Exit → Act → World → Prop) (zz : a.tmps.size = 39)
    (t0 : a.tmps.getD 0 undef = .pointer (some ⟨d, 0, none⟩))
    (t1 : a.tmps.getD 1 undef = .int .i64 (n : Int))
    (hd : k + 1 = n) (hs : n ≤ 9223372036854775800) (L1 : ∀ W, W = w → (Instr.loadAt 93 (.pointer (some ⟨d, 0 + 1, none⟩))).run Tryz.prog W = .ok (.slice (some ⟨g, o, none⟩) n c) W) (ESL : ∀ W, (Instr.sliceAt 93 (.slice (some ⟨g, o, none⟩) n c) none (some (.int .i64 (k : Int))) none).run Tryz.prog W = .ok pv2 W) (E1 : (Instr.storeAt 93 (.pointer (some ⟨d, 0 + 1, none⟩)) pv2).run Tryz.prog w = .ok () w1)
    (h : ∀ (a' : Act) (w' : World), w' = w1 → a' = ((((((((((a).put (some 29) (.pointer (some ⟨d, 0, none⟩))).put (some 30) (.pointer (some ⟨d, 0, none⟩))).put (some 31) (.pointer (some ⟨d, 0, none⟩))).put (some 32) (.pointer (some ⟨d, 0 + 1, none⟩))).put (some 33) (.slice (some ⟨g, o, none⟩) n c)).put (some 34) (.int .i64 (n : Int))).put (some 35) (.int .i64 (k : Int))).put (some 36) (pv2)).put (some 37) (.pointer (some ⟨d, 0, none⟩))).put (some 38) (.pointer (some ⟨d, 0 + 1, none⟩)) → Q .normal a' w') :
    (Code.region 6 run6_ops false).wp Tryz.prog Q a w := by
  refine z0 rfl ?_
  refine zv rfl (exec_move rfl (zi t0 rfl)) ?_
  refine zv rfl (exec_move rfl (zi t0 rfl)) ?_
  refine zv rfl (exec_nilCheck rfl (zg zz rfl)) ?_
  refine zv rfl (exec_fieldAt rfl (zg zz rfl) (fg_95_1 _ _ _)) ?_
  refine zv rfl (exec_load rfl (zg zz rfl) (L1 _ rfl)) ?_
  refine zv rfl (exec_move rfl (zi t1 rfl)) ?_
  refine zv (v := .int .i64 (k : Int)) rfl (exec_sub1 rfl (zg zz rfl) rfl hd hs) ?_
  refine zv (v := pv2) rfl (exec_slu rfl (zg zz rfl) (zg zz rfl) (ESL _)) ?_
  refine zv rfl (exec_nilCheck rfl (zg zz rfl)) ?_
  refine zv rfl (exec_fieldAt rfl (zg zz rfl) (fg_95_1 _ _ _)) ?_
  refine zs rfl (exec_store rfl (zg zz rfl) (zg zz rfl) E1) ?_
  exact ze rfl (h _ _ (rfl) rfl)
def rto1_o0 : Oper := ⟨some 7, .move (.tmp 0), 28, "ref.go:150", #[], none⟩
def rto1_o1 : Oper := ⟨some 8, .load 68 (.tmp 3), 68, "ref.go:150", #[], none⟩
def rto1_o2 : Oper := ⟨some 9, .call { callee := Callee.value (Operand.func 52), args := #[.tmp 7, .tmp 8], argTypes := #[28, 68] }, 71, "ref.go:150", #[⟨0, .data⟩, ⟨1, .data⟩], none⟩
def rto1_o3 : Oper := ⟨some 6, .assign (.tmp 9), 71, "ref.go:150", #[⟨2, .data⟩, ⟨2, .chain⟩, ⟨0, .phase⟩, ⟨1, .phase⟩, ⟨2, .phase⟩], none⟩
def rto1_ops : Array Oper := #[rto1_o0, rto1_o1, rto1_o2, rto1_o3]
theorem rto1 {d pb : Nat} {p : PlK} (Fin : Value → World → Prop) (a : Act) (w : World) (Q : Exit → Act → World → Prop) (zz : a.tmps.size = 20)
    (t0 : a.tmps.getD 0 undef = .pointer (some ⟨d, 0, none⟩))
    (t3 : a.tmps.getD 3 undef = .pointer (some ⟨pb, 0, none⟩))
    (LP : ∀ W, W = w → (Instr.loadAt 68 (.pointer (some ⟨pb, 0, none⟩))).run Tryz.prog W = .ok (p.v) W) (CL : Calls Tryz.prog 52 #[.pointer (some ⟨d, 0, none⟩), p.v] w fun e w' => ∃ u, e = .returned u ∧ Fin u w')
    (h : ∀ (u : Value) (a' : Act) (w' : World), Fin u w' → a' = ((((a).put (some 7) (.pointer (some ⟨d, 0, none⟩))).put (some 8) (p.v)).put (some 9) (u)).put (some 6) (u) → Q .normal a' w') :
    (Code.region 1 rto1_ops false).wp Tryz.prog Q a w := by
  refine z0 rfl ?_
  refine zv rfl (exec_move rfl (zi t0 rfl)) ?_
  refine zv rfl (exec_load rfl (zi t3 rfl) (LP _ rfl)) ?_
  refine zc rfl (exec_c2 rfl (zg zz rfl) (zg zz rfl)) (CL) (fun e x2 hx => ?_)
  obtain ⟨u, rfl, HF⟩ := hx
  replace h := h u
  refine ⟨_, rfl, ?_⟩
  refine zv rfl (exec_assign rfl (zg zz rfl)) ?_
  exact ze rfl (h _ _ (HF) rfl)
def rto3_o0 : Oper := ⟨some 13, .build 85 #[], 85, "ref.go:152", #[], none⟩
def rto3_o1 : Oper := ⟨none, .store 85 (.tmp 4) (.tmp 13), 0, "ref.go:152", #[⟨0, .data⟩, ⟨0, .phase⟩], none⟩
def rto3_o2 : Oper := ⟨some 5, .assign (Operand.const (Value.bool false)), 4, "ref.go:152", #[⟨1, .chain⟩, ⟨0, .phase⟩, ⟨1, .phase⟩], none⟩
def rto3_ops : Array Oper := #[rto3_o0, rto3_o1, rto3_o2]
theorem rto3 {eb : Nat} {w1 : World} (a : Act) (w : World) (Q : Exit → Act → World → Prop) (zz : a.tmps.size = 20)
    (t4 : a.tmps.getD 4 undef = .pointer (some ⟨eb, 0, none⟩))
    (ES : (Instr.storeAt 85 (.pointer (some ⟨eb, 0, none⟩)) zEn.a).run Tryz.prog w = .ok () w1)
    (h : ∀ (a' : Act) (w' : World), w' = w1 → a' = ((a).put (some 13) (zEn.a)).put (some 5) (.bool false) → Q .normal a' w') :
    (Code.region 3 rto3_ops false).wp Tryz.prog Q a w := by
  refine z0 rfl ?_
  refine zv rfl (exec_build0 rfl (build_zen _)) ?_
  refine zs rfl (exec_store rfl (zi t4 rfl) (zg zz rfl) ES) ?_
  refine zv rfl (exec_assign rfl rfl) ?_
  exact ze rfl (h _ _ (rfl) rfl)
def rto4_o0 : Oper := ⟨some 14, .move (.tmp 6), 71, "ref.go:154", #[], none⟩
def rto4_o1 : Oper := ⟨some 15, .move (.tmp 6), 71, "ref.go:154", #[], none⟩
def rto4_o2 : Oper := ⟨some 16, .call { callee := Callee.builtin Builtin.len, args := #[.tmp 15], argTypes := #[71] }, 3, "ref.go:154", #[⟨1, .data⟩], none⟩
def rto4_o3 : Oper := ⟨some 17, .binOp BinOp.sub 3 (.tmp 16) (Operand.const (Value.int IntKind.i64 1)) 3, 3, "ref.go:154", #[⟨2, .data⟩], none⟩
def rto4_o4 : Oper := ⟨some 18, .indexAddr 71 (.tmp 14) (.tmp 17), 0, "ref.go:154", #[⟨0, .data⟩, ⟨3, .data⟩], none⟩
def rto4_o5 : Oper := ⟨some 19, .load 85 (.tmp 18), 85, "ref.go:154", #[⟨4, .data⟩], none⟩
def rto4_o6 : Oper := ⟨none, .store 85 (.tmp 4) (.tmp 19), 0, "ref.go:154", #[⟨5, .data⟩, ⟨0, .phase⟩, ⟨1, .phase⟩, ⟨2, .phase⟩, ⟨3, .phase⟩, ⟨4, .phase⟩, ⟨5, .phase⟩], none⟩
def rto4_o7 : Oper := ⟨some 5, .assign (Operand.const (Value.bool true)), 4, "ref.go:154", #[⟨6, .chain⟩, ⟨0, .phase⟩, ⟨1, .phase⟩, ⟨2, .phase⟩, ⟨3, .phase⟩, ⟨4, .phase⟩, ⟨5, .phase⟩, ⟨6, .phase⟩], none⟩
def rto4_ops : Array Oper := #[rto4_o0, rto4_o1, rto4_o2, rto4_o3, rto4_o4, rto4_o5, rto4_o6, rto4_o7]
theorem rto4 {eb g o n lc d : Nat} {x : EnV} {w1 : World} (a : Act) (w : World) (Q : Exit → Act → World → Prop) (zz : a.tmps.size = 20)
    (t4 : a.tmps.getD 4 undef = .pointer (some ⟨eb, 0, none⟩))
    (t6 : a.tmps.getD 6 undef = .slice (some ⟨g, o, none⟩) n lc)
    (hd : d + 1 = n) (hs : n ≤ 9223372036854775800) (hi : d < n) (hm : n ≤ 9223372036854775807) (LX : ∀ W, W = w → (Instr.loadAt 85 (.pointer (some ⟨g, o + 37 * d, none⟩))).run Tryz.prog W = .ok x.a W) (ES : (Instr.storeAt 85 (.pointer (some ⟨eb, 0, none⟩)) x.a).run Tryz.prog w = .ok () w1)
    (h : ∀ (a' : Act) (w' : World), w' = w1 → a' = (((((((a).put (some 14) (.slice (some ⟨g, o, none⟩) n lc)).put (some 15) (.slice (some ⟨g, o, none⟩) n lc)).put (some 16) (.int .i64 (n : Int))).put (some 17) (.int .i64 (d : Int))).put (some 18) (.pointer (some ⟨g, o + 37 * d, none⟩))).put (some 19) (x.a)).put (some 5) (.bool true) → Q .normal a' w') :
    (Code.region 4 rto4_ops false).wp Tryz.prog Q a w := by
  refine z0 rfl ?_
  refine zv rfl (exec_move rfl (zi t6 rfl)) ?_
  refine zv rfl (exec_move rfl (zi t6 rfl)) ?_
  refine zv rfl (exec_len rfl (zg zz rfl) (len_en _ _ _ _ _)) ?_
  refine zv (v := .int .i64 (d : Int)) rfl (exec_sub1 rfl (zg zz rfl) rfl hd hs) ?_
  refine zv rfl (exec_indexAt rfl (zg zz rfl) (zg zz rfl) (ix_en hi hm _)) ?_
  refine zv rfl (exec_load rfl (zg zz rfl) (LX _ rfl)) ?_
  refine zs rfl (exec_store rfl (zi t4 rfl) (zg zz rfl) ES) ?_
  refine zv rfl (exec_assign rfl rfl) ?_
  exact ze rfl (h _ _ (rfl) rfl)
def rke5_o0 : Oper := ⟨some 23, .move (.tmp 0), 28, "ref.go:160", #[], none⟩
def rke5_o1 : Oper := ⟨some 24, .nilCheck (.tmp 23), 0, "ref.go:160", #[⟨0, .data⟩], none⟩
def rke5_o2 : Oper := ⟨some 25, .fieldAddr 95 (.tmp 24) 0, 0, "ref.go:160", #[⟨1, .data⟩], none⟩
def rke5_o3 : Oper := ⟨some 26, .load 92 (.tmp 25), 92, "ref.go:160", #[⟨2, .data⟩], none⟩
def rke5_o4 : Oper := ⟨some 27, .move (.tmp 6), 3, "ref.go:160", #[], none⟩
def rke5_o5 : Oper := ⟨some 28, .indexAddr 92 (.tmp 26) (.tmp 27), 0, "ref.go:160", #[⟨3, .data⟩, ⟨4, .data⟩], none⟩
def rke5_o6 : Oper := ⟨some 29, .fieldAddr 174 (.tmp 28) 0, 0, "ref.go:160", #[⟨5, .data⟩], none⟩
def rke5_o7 : Oper := ⟨some 30, .load 68 (.tmp 29), 68, "ref.go:160", #[⟨6, .data⟩], none⟩
def rke5_o8 : Oper := ⟨some 7, .alloc 68, 0, "ref.go:160", #[], none⟩
def rke5_o9 : Oper := ⟨none, .store 68 (.tmp 7) (.tmp 30), 0, "ref.go:160", #[⟨8, .data⟩, ⟨7, .data⟩, ⟨0, .phase⟩, ⟨1, .phase⟩, ⟨2, .phase⟩, ⟨3, .phase⟩, ⟨4, .phase⟩, ⟨5, .phase⟩, ⟨6, .phase⟩, ⟨7, .phase⟩, ⟨8, .phase⟩], none⟩
def rke5_ops : Array Oper := #[rke5_o0, rke5_o1, rke5_o2, rke5_o3, rke5_o4, rke5_o5, rke5_o6, rke5_o7, rke5_o8, rke5_o9]
theorem rke5 {d g o n c i pb : Nat} {p : PlK} {w1 w2 : World} (a : Act) (w : World) (Q : Exit → Act → World → Prop) (zz : a.tmps.size = 83)
    (t0 : a.tmps.getD 0 undef = .pointer (some ⟨d, 0, none⟩))
    (t6 : a.tmps.getD 6 undef = .int .i64 (i : Int))
    (hi : i < n) (hm : n ≤ 9223372036854775807) (L1 : ∀ W, W = w → (Instr.loadAt 92 (.pointer (some ⟨d, 0 + 0, none⟩))).run Tryz.prog W = .ok (.slice (some ⟨g, o, none⟩) n c) W) (L2 : ∀ W, W = w → (Instr.loadAt 68 (.pointer (some ⟨g, o + 68 * i + 0, none⟩))).run Tryz.prog W = .ok (p.v) W) (EA : (Instr.alloc 68 true (.tuple #[])).run Tryz.prog w = .ok (.pointer (some ⟨pb, 0, none⟩)) w1) (E2 : (Instr.storeAt 68 (.pointer (some ⟨pb, 0, none⟩)) p.v).run Tryz.prog w1 = .ok () w2)
    (h : ∀ (a' : Act) (w' : World), w' = w2 → a' = (((((((((a).put (some 23) (.pointer (some ⟨d, 0, none⟩))).put (some 24) (.pointer (some ⟨d, 0, none⟩))).put (some 25) (.pointer (some ⟨d, 0 + 0, none⟩))).put (some 26) (.slice (some ⟨g, o, none⟩) n c)).put (some 27) (.int .i64 (i : Int))).put (some 28) (.pointer (some ⟨g, o + 68 * i, none⟩))).put (some 29) (.pointer (some ⟨g, o + 68 * i + 0, none⟩))).put (some 30) (p.v)).put (some 7) (.pointer (some ⟨pb, 0, none⟩)) → Q .normal a' w') :
    (Code.region 5 rke5_ops false).wp Tryz.prog Q a w := by
  refine z0 rfl ?_
  refine zv rfl (exec_move rfl (zi t0 rfl)) ?_
  refine zv rfl (exec_nilCheck rfl (zg zz rfl)) ?_
  refine zv rfl (exec_fieldAt rfl (zg zz rfl) (fg_95_0 _ _ _)) ?_
  refine zv rfl (exec_load rfl (zg zz rfl) (L1 _ rfl)) ?_
  refine zv rfl (exec_move rfl (zi t6 rfl)) ?_
  refine zv rfl (exec_indexAt rfl (zg zz rfl) (zg zz rfl) (ix_sl hi hm _)) ?_
  refine zv rfl (exec_fieldAt rfl (zg zz rfl) (fg_174_0 _ _ _)) ?_
  refine zv rfl (exec_load rfl (zg zz rfl) (L2 _ rfl)) ?_
  refine zv (v := .pointer (some ⟨pb, 0, none⟩)) rfl (exec_alloc rfl EA) ?_
  refine zs rfl (exec_store rfl (zg zz rfl) (zg zz rfl) E2) ?_
  exact ze rfl (h _ _ (rfl) rfl)
def rke6n_o0 : Oper := ⟨some 31, .fieldAddr 68 (.tmp 7) 0, 0, "ref.go:161", #[], none⟩
def rke6n_o1 : Oper := ⟨some 32, .load 59 (.tmp 31), 59, "ref.go:161", #[⟨0, .data⟩], none⟩
def rke6n_o2 : Oper := ⟨some 33, .load 59 (.tmp 3), 59, "ref.go:161", #[], none⟩
def rke6n_o3 : Oper := ⟨some 34, .binOp BinOp.neq 59 (.tmp 32) (.tmp 33) 59, 4, "ref.go:161", #[⟨1, .data⟩, ⟨2, .data⟩], none⟩
def rke6n_o4 : Oper := ⟨some 35, .move (.tmp 34), 4, "ref.go:161", #[⟨3, .data⟩], none⟩
def rke6n_o5 : Oper := ⟨some 36, .fieldAddr 68 (.tmp 7) 2, 0, "ref.go:161", #[⟨4, .guard⟩], some (4, false)⟩
def rke6n_o6 : Oper := ⟨some 37, .load 59 (.tmp 36), 59, "ref.go:161", #[⟨5, .data⟩, ⟨4, .guard⟩], some (4, false)⟩
def rke6n_o7 : Oper := ⟨some 38, .build 59 #[], 59, "ref.go:161", #[⟨4, .guard⟩], some (4, false)⟩
def rke6n_o8 : Oper := ⟨some 39, .binOp BinOp.neq 59 (.tmp 37) (.tmp 38) 59, 4, "ref.go:161", #[⟨6, .data⟩, ⟨7, .data⟩, ⟨4, .guard⟩], some (4, false)⟩
def rke6n_o9 : Oper := ⟨some 40, .pick (.tmp 35) (Operand.const (Value.bool true)) (.tmp 39), 4, "ref.go:161", #[⟨4, .data⟩, ⟨8, .data⟩], none⟩
def rke6n_ops : Array Oper := #[rke6n_o0, rke6n_o1, rke6n_o2, rke6n_o3, rke6n_o4, rke6n_o5, rke6n_o6, rke6n_o7, rke6n_o8, rke6n_o9]
theorem rke6n {ob pb : Nat} {p : PlK} {y : IdK} (a : Act) (w : World) (Q : Exit → Act → World → Prop) (zz : a.tmps.size = 83)
    (t3 : a.tmps.getD 3 undef = .pointer (some ⟨ob, 0, none⟩))
    (t7 : a.tmps.getD 7 undef = .pointer (some ⟨pb, 0, none⟩))
    (hp : p.ok) (hy : y.ok) (L1 : ∀ W, W = w → (Instr.loadAt 59 (.pointer (some ⟨pb, 0 + 0, none⟩))).run Tryz.prog W = .ok (p.o.v) W) (L2 : ∀ W, W = w → (Instr.loadAt 59 (.pointer (some ⟨ob, 0, none⟩))).run Tryz.prog W = .ok (y.v) W) (hne : p.o ≠ y)
    (h : ∀ (a' : Act) (w' : World), w' = w → a' = ((((((((((a).put (some 31) (.pointer (some ⟨pb, 0 + 0, none⟩))).put (some 32) (p.o.v)).put (some 33) (y.v)).put (some 34) (.bool true)).put (some 35) (.bool true)).put (some 36) (undef)).put (some 37) (undef)).put (some 38) (undef)).put (some 39) (undef)).put (some 40) (.bool true) → Q .normal a' w') :
    (Code.region 6 rke6n_ops false).wp Tryz.prog Q a w := by
  refine z0 rfl ?_
  refine zv rfl (exec_fieldAt rfl (zi t7 rfl) (fg_68_0 _ _ _)) ?_
  refine zv rfl (exec_load rfl (zg zz rfl) (L1 _ rfl)) ?_
  refine zv rfl (exec_load rfl (zi t3 rfl) (L2 _ rfl)) ?_
  refine zv (v := .bool true) rfl (ex_neqI rfl (zg zz rfl) (zg zz rfl) hp.o hy (decide_eq_true hne)) ?_
  refine zv rfl (exec_move rfl (zg zz rfl)) ?_
  refine zn (zx zz rfl rfl rfl (zg zz rfl)) ?_
  refine zn (zx zz rfl rfl rfl (zg zz rfl)) ?_
  refine zn (zx zz rfl rfl rfl (zg zz rfl)) ?_
  refine zn (zx zz rfl rfl rfl (zg zz rfl)) ?_
  refine zv rfl (exec_pickT rfl (zg zz rfl) rfl) ?_
  exact ze rfl (h _ _ (rfl) rfl)
def rke6y_o0 : Oper := ⟨some 31, .fieldAddr 68 (.tmp 7) 0, 0, "ref.go:161", #[], none⟩
def rke6y_o1 : Oper := ⟨some 32, .load 59 (.tmp 31), 59, "ref.go:161", #[⟨0, .data⟩], none⟩
def rke6y_o2 : Oper := ⟨some 33, .load 59 (.tmp 3), 59, "ref.go:161", #[], none⟩
def rke6y_o3 : Oper := ⟨some 34, .binOp BinOp.neq 59 (.tmp 32) (.tmp 33) 59, 4, "ref.go:161", #[⟨1, .data⟩, ⟨2, .data⟩], none⟩
def rke6y_o4 : Oper := ⟨some 35, .move (.tmp 34), 4, "ref.go:161", #[⟨3, .data⟩], none⟩
def rke6y_o5 : Oper := ⟨some 36, .fieldAddr 68 (.tmp 7) 2, 0, "ref.go:161", #[⟨4, .guard⟩], some (4, false)⟩
def rke6y_o6 : Oper := ⟨some 37, .load 59 (.tmp 36), 59, "ref.go:161", #[⟨5, .data⟩, ⟨4, .guard⟩], some (4, false)⟩
def rke6y_o7 : Oper := ⟨some 38, .build 59 #[], 59, "ref.go:161", #[⟨4, .guard⟩], some (4, false)⟩
def rke6y_o8 : Oper := ⟨some 39, .binOp BinOp.neq 59 (.tmp 37) (.tmp 38) 59, 4, "ref.go:161", #[⟨6, .data⟩, ⟨7, .data⟩, ⟨4, .guard⟩], some (4, false)⟩
def rke6y_o9 : Oper := ⟨some 40, .pick (.tmp 35) (Operand.const (Value.bool true)) (.tmp 39), 4, "ref.go:161", #[⟨4, .data⟩, ⟨8, .data⟩], none⟩
def rke6y_ops : Array Oper := #[rke6y_o0, rke6y_o1, rke6y_o2, rke6y_o3, rke6y_o4, rke6y_o5, rke6y_o6, rke6y_o7, rke6y_o8, rke6y_o9]
theorem rke6y {ob pb : Nat} {p : PlK} {y : IdK} {r : Bool} (a : Act) (w : World) (Q : Exit → Act → World → Prop) (zz : a.tmps.size = 83)
    (t3 : a.tmps.getD 3 undef = .pointer (some ⟨ob, 0, none⟩))
    (t7 : a.tmps.getD 7 undef = .pointer (some ⟨pb, 0, none⟩))
    (hp : p.ok) (hy : y.ok) (L1 : ∀ W, W = w → (Instr.loadAt 59 (.pointer (some ⟨pb, 0 + 0, none⟩))).run Tryz.prog W = .ok (p.o.v) W) (L2 : ∀ W, W = w → (Instr.loadAt 59 (.pointer (some ⟨ob, 0, none⟩))).run Tryz.prog W = .ok (y.v) W) (he : p.o = y) (hr : decide (p.a ≠ zId) = r) (L3 : ∀ W, W = w → (Instr.loadAt 59 (.pointer (some ⟨pb, 0 + 34, none⟩))).run Tryz.prog W = .ok (p.a.v) W)
    (h : ∀ (a' : Act) (w' : World), w' = w → a' = ((((((((((a).put (some 31) (.pointer (some ⟨pb, 0 + 0, none⟩))).put (some 32) (p.o.v)).put (some 33) (y.v)).put (some 34) (.bool false)).put (some 35) (.bool false)).put (some 36) (.pointer (some ⟨pb, 0 + 34, none⟩))).put (some 37) (p.a.v)).put (some 38) (zId.v)).put (some 39) (.bool r)).put (some 40) (.bool r) → Q .normal a' w') :
    (Code.region 6 rke6y_ops false).wp Tryz.prog Q a w := by
  refine z0 rfl ?_
  refine zv rfl (exec_fieldAt rfl (zi t7 rfl) (fg_68_0 _ _ _)) ?_
  refine zv rfl (exec_load rfl (zg zz rfl) (L1 _ rfl)) ?_
  refine zv rfl (exec_load rfl (zi t3 rfl) (L2 _ rfl)) ?_
  refine zv (v := .bool false) rfl (ex_neqI rfl (zg zz rfl) (zg zz rfl) hp.o hy (decide_eq_false (fun h => h he))) ?_
  refine zv rfl (exec_move rfl (zg zz rfl)) ?_
  refine zv (zw zz rfl rfl rfl (zg zz rfl)) (exec_fieldAt rfl (zi t7 rfl) (fg_68_2 _ _ _)) ?_
  refine zv (zw zz rfl rfl rfl (zg zz rfl)) (exec_load rfl (zg zz rfl) (L3 _ rfl)) ?_
  refine zv (zw zz rfl rfl rfl (zg zz rfl)) (exec_build0 rfl (build_id _)) ?_
  refine zv (v := .bool r) (zw zz rfl rfl rfl (zg zz rfl)) (ex_neqI rfl (zg zz rfl) (zg zz rfl) hp.a zId_ok hr) ?_
  refine zv rfl (exec_pickF rfl (zg zz rfl) (zg zz rfl)) ?_
  exact ze rfl (h _ _ (rfl) rfl)
def rke7_o0 : Oper := ⟨some 41, .move (.tmp 5), 74, "ref.go:164", #[], none⟩
def rke7_o1 : Oper := ⟨some 42, .fieldAddr 68 (.tmp 7) 1, 0, "ref.go:164", #[], none⟩
def rke7_o2 : Oper := ⟨some 43, .load 9 (.tmp 42), 9, "ref.go:164", #[⟨1, .data⟩], none⟩
def rke7_o3 : Oper := ⟨some 44, .buildSlice 74 1 #[(0, .tmp 43)], 74, "ref.go:164", #[⟨2, .data⟩], none⟩
def rke7_o4 : Oper := ⟨some 45, .call { callee := Callee.builtin Builtin.append, args := #[.tmp 41, .tmp 44], argTypes := #[74, 74] }, 74, "ref.go:164", #[⟨0, .data⟩, ⟨3, .data⟩], none⟩
def rke7_o5 : Oper := ⟨some 5, .assign (.tmp 45), 74, "ref.go:164", #[⟨4, .data⟩, ⟨4, .chain⟩, ⟨0, .phase⟩, ⟨1, .phase⟩, ⟨2, .phase⟩, ⟨3, .phase⟩, ⟨4, .phase⟩], none⟩
def rke7_ops : Array Oper := #[rke7_o0, rke7_o1, rke7_o2, rke7_o3, rke7_o4, rke7_o5]
theorem rke7 {pb : Nat} {lv bv u : Value} {p : PlK} {w1 w2 : World} (a : Act) (w : World) (Q : Exit → Act → World → Prop) (zz : a.tmps.size = 83)
    (t5 : a.tmps.getD 5 undef = lv)
    (t7 : a.tmps.getD 7 undef = .pointer (some ⟨pb, 0, none⟩))
    (L1 : ∀ W, W = w → (Instr.loadAt 9 (.pointer (some ⟨pb, 0 + 33, none⟩))).run Tryz.prog W = .ok (.string p.k) W) (E1 : (Instr.buildSlice 74 1 #[(0, .string p.k)]).run Tryz.prog w = .ok bv w1) (E2 : (Builtin.append_ #[74, 74] 74 #[lv, bv]).run Tryz.prog w1 = .ok u w2)
    (h : ∀ (a' : Act) (w' : World), w' = w2 → a' = ((((((a).put (some 41) (lv)).put (some 42) (.pointer (some ⟨pb, 0 + 33, none⟩))).put (some 43) (.string p.k)).put (some 44) (bv)).put (some 45) (u)).put (some 5) (u) → Q .normal a' w') :
    (Code.region 7 rke7_ops false).wp Tryz.prog Q a w := by
  refine z0 rfl ?_
  refine zv rfl (exec_move rfl (zi t5 rfl)) ?_
  refine zv rfl (exec_fieldAt rfl (zi t7 rfl) (fg_68_1 _ _ _)) ?_
  refine zv rfl (exec_load rfl (zg zz rfl) (L1 _ rfl)) ?_
  refine zv (v := bv) rfl (exec_buildSlice rfl (zg zz rfl) E1) ?_
  refine zv (v := u) rfl (exec_append rfl (zg zz rfl) (zg zz rfl) E2) ?_
  refine zv rfl (exec_assign rfl (zg zz rfl)) ?_
  exact ze rfl (h _ _ (rfl) rfl)
def rke9n_o0 : Oper := ⟨some 49, .move (.tmp 8), 3, "ref.go:165", #[], none⟩
def rke9n_o1 : Oper := ⟨some 50, .binOp BinOp.gtr 3 (.tmp 49) (Operand.const (Value.int IntKind.i64 0)) 3, 4, "ref.go:165", #[⟨0, .data⟩], none⟩
def rke9n_o2 : Oper := ⟨some 51, .move (.tmp 50), 4, "ref.go:165", #[⟨1, .data⟩], none⟩
def rke9n_o3 : Oper := ⟨some 52, .move (.tmp 5), 74, "ref.go:165", #[⟨2, .guard⟩], some (2, true)⟩
def rke9n_o4 : Oper := ⟨some 53, .move (.tmp 8), 3, "ref.go:165", #[⟨2, .guard⟩], some (2, true)⟩
def rke9n_o5 : Oper := ⟨some 54, .indexAddr 74 (.tmp 52) (.tmp 53), 0, "ref.go:165", #[⟨3, .data⟩, ⟨4, .data⟩, ⟨2, .guard⟩], some (2, true)⟩
def rke9n_o6 : Oper := ⟨some 55, .load 9 (.tmp 54), 9, "ref.go:165", #[⟨5, .data⟩, ⟨2, .guard⟩], some (2, true)⟩
def rke9n_o7 : Oper := ⟨some 56, .move (.tmp 5), 74, "ref.go:165", #[⟨2, .guard⟩], some (2, true)⟩
def rke9n_o8 : Oper := ⟨some 57, .move (.tmp 8), 3, "ref.go:165", #[⟨2, .guard⟩], some (2, true)⟩
def rke9n_o9 : Oper := ⟨some 58, .binOp BinOp.sub 3 (.tmp 57) (Operand.const (Value.int IntKind.i64 1)) 3, 3, "ref.go:165", #[⟨8, .data⟩, ⟨2, .guard⟩], some (2, true)⟩
def rke9n_o10 : Oper := ⟨some 59, .indexAddr 74 (.tmp 56) (.tmp 58), 0, "ref.go:165", #[⟨7, .data⟩, ⟨9, .data⟩, ⟨2, .guard⟩], some (2, true)⟩
def rke9n_o11 : Oper := ⟨some 60, .load 9 (.tmp 59), 9, "ref.go:165", #[⟨10, .data⟩, ⟨2, .guard⟩], some (2, true)⟩
def rke9n_o12 : Oper := ⟨some 61, .binOp BinOp.lss 9 (.tmp 55) (.tmp 60) 9, 4, "ref.go:165", #[⟨6, .data⟩, ⟨11, .data⟩, ⟨2, .guard⟩], some (2, true)⟩
def rke9n_o13 : Oper := ⟨some 62, .pick (.tmp 51) (.tmp 61) (Operand.const (Value.bool false)), 4, "ref.go:165", #[⟨2, .data⟩, ⟨12, .data⟩], none⟩
def rke9n_ops : Array Oper := #[rke9n_o0, rke9n_o1, rke9n_o2, rke9n_o3, rke9n_o4, rke9n_o5, rke9n_o6, rke9n_o7, rke9n_o8, rke9n_o9, rke9n_o10, rke9n_o11, rke9n_o12, rke9n_o13]
theorem rke9n {g o n c k : Nat} (a : Act) (w : World) (Q : Exit → Act → World → Prop) (zz : a.tmps.size = 83)
    (t5 : a.tmps.getD 5 undef = .slice (some ⟨g, o, none⟩) n c)
    (t8 : a.tmps.getD 8 undef = .int .i64 (k : Int))
    (h0 : k = 0)
    (h : ∀ (a' : Act) (w' : World), w' = w.drew → a' = ((((((((((((((a).put (some 49) (.int .i64 (k : Int))).put (some 50) (.bool false)).put (some 51) (.bool false)).put (some 52) (undef)).put (some 53) (undef)).put (some 54) (undef)).put (some 55) (undef)).put (some 56) (undef)).put (some 57) (undef)).put (some 58) (undef)).put (some 59) (undef)).put (some 60) (undef)).put (some 61) (undef)).put (some 62) (.bool false) → Q .normal a' w') :
    (Code.region 9 rke9n_ops true).wp Tryz.prog Q a w := by
  refine y0 (fun w' => w' = w.drew) (rfl) (fun hHeld => ?_)
  refine yv 0 rfl rfl (fun w1 hw => exec_move rfl (zi t8 rfl)) hHeld ?_
  refine yv (v := .bool false) 1 rfl rfl (fun w1 hw => ex_gtz (by rw [h0]; rfl) rfl (zg zz rfl) rfl) hHeld ?_
  refine yv 2 rfl rfl (fun w1 hw => exec_move rfl (zg zz rfl)) hHeld ?_
  refine yn 3 rfl (zx zz rfl rfl rfl (zg zz rfl)) hHeld ?_
  refine yn 4 rfl (zx zz rfl rfl rfl (zg zz rfl)) hHeld ?_
  refine yn 5 rfl (zx zz rfl rfl rfl (zg zz rfl)) hHeld ?_
  refine yn 6 rfl (zx zz rfl rfl rfl (zg zz rfl)) hHeld ?_
  refine yn 7 rfl (zx zz rfl rfl rfl (zg zz rfl)) hHeld ?_
  refine yn 8 rfl (zx zz rfl rfl rfl (zg zz rfl)) hHeld ?_
  refine yn 9 rfl (zx zz rfl rfl rfl (zg zz rfl)) hHeld ?_
  refine yn 10 rfl (zx zz rfl rfl rfl (zg zz rfl)) hHeld ?_
  refine yn 11 rfl (zx zz rfl rfl rfl (zg zz rfl)) hHeld ?_
  refine yn 12 rfl (zx zz rfl rfl rfl (zg zz rfl)) hHeld ?_
  refine yv 13 rfl rfl (fun w1 hw => exec_pickF rfl (zg zz rfl) rfl) hHeld ?_
  exact ye rfl (h _ _ (hHeld) rfl)
def rke9y_o0 : Oper := ⟨some 49, .move (.tmp 8), 3, "ref.go:165", #[], none⟩
def rke9y_o1 : Oper := ⟨some 50, .binOp BinOp.gtr 3 (.tmp 49) (Operand.const (Value.int IntKind.i64 0)) 3, 4, "ref.go:165", #[⟨0, .data⟩], none⟩
def rke9y_o2 : Oper := ⟨some 51, .move (.tmp 50), 4, "ref.go:165", #[⟨1, .data⟩], none⟩
def rke9y_o3 : Oper := ⟨some 52, .move (.tmp 5), 74, "ref.go:165", #[⟨2, .guard⟩], some (2, true)⟩
def rke9y_o4 : Oper := ⟨some 53, .move (.tmp 8), 3, "ref.go:165", #[⟨2, .guard⟩], some (2, true)⟩
def rke9y_o5 : Oper := ⟨some 54, .indexAddr 74 (.tmp 52) (.tmp 53), 0, "ref.go:165", #[⟨3, .data⟩, ⟨4, .data⟩, ⟨2, .guard⟩], some (2, true)⟩
def rke9y_o6 : Oper := ⟨some 55, .load 9 (.tmp 54), 9, "ref.go:165", #[⟨5, .data⟩, ⟨2, .guard⟩], some (2, true)⟩
def rke9y_o7 : Oper := ⟨some 56, .move (.tmp 5), 74, "ref.go:165", #[⟨2, .guard⟩], some (2, true)⟩
def rke9y_o8 : Oper := ⟨some 57, .move (.tmp 8), 3, "ref.go:165", #[⟨2, .guard⟩], some (2, true)⟩
def rke9y_o9 : Oper := ⟨some 58, .binOp BinOp.sub 3 (.tmp 57) (Operand.const (Value.int IntKind.i64 1)) 3, 3, "ref.go:165", #[⟨8, .data⟩, ⟨2, .guard⟩], some (2, true)⟩
def rke9y_o10 : Oper := ⟨some 59, .indexAddr 74 (.tmp 56) (.tmp 58), 0, "ref.go:165", #[⟨7, .data⟩, ⟨9, .data⟩, ⟨2, .guard⟩], some (2, true)⟩
def rke9y_o11 : Oper := ⟨some 60, .load 9 (.tmp 59), 9, "ref.go:165", #[⟨10, .data⟩, ⟨2, .guard⟩], some (2, true)⟩
def rke9y_o12 : Oper := ⟨some 61, .binOp BinOp.lss 9 (.tmp 55) (.tmp 60) 9, 4, "ref.go:165", #[⟨6, .data⟩, ⟨11, .data⟩, ⟨2, .guard⟩], some (2, true)⟩
def rke9y_o13 : Oper := ⟨some 62, .pick (.tmp 51) (.tmp 61) (Operand.const (Value.bool false)), 4, "ref.go:165", #[⟨2, .data⟩, ⟨12, .data⟩], none⟩
def rke9y_ops : Array Oper := #[rke9y_o0, rke9y_o1, rke9y_o2, rke9y_o3, rke9y_o4, rke9y_o5, rke9y_o6, rke9y_o7, rke9y_o8, rke9y_o9, rke9y_o10, rke9y_o11, rke9y_o12, rke9y_o13]
theorem rke9y {g o n c k j : Nat} {s t : ByteArray} {r : Bool} (a : Act) (w : World) (Q : Exit → Act → World → Prop) (zz : a.tmps.size = 83)
    (t5 : a.tmps.getD 5 undef = .slice (some ⟨g, o, none⟩) n c)
    (t8 : a.tmps.getD 8 undef = .int .i64 (k : Int))
    (hjk : j + 1 = k) (hs : k ≤ 9223372036854775800) (hk : k < n) (hj : j < n) (hm : n ≤ 9223372036854775807) (L1 : ∀ W, W = w.drew → (Instr.loadAt 9 (.pointer (some ⟨g, o + k, none⟩))).run Tryz.prog W = .ok (.string s) W) (L2 : ∀ W, W = w.drew → (Instr.loadAt 9 (.pointer (some ⟨g, o + j, none⟩))).run Tryz.prog W = .ok (.string t) W) (EL : ∀ W, (binOp .lss 9 (.string s) (.string t)).run Tryz.prog W = .ok (.bool r) W)
    (h : ∀ (a' : Act) (w' : World), w' = w.drew → a' = ((((((((((((((a).put (some 49) (.int .i64 (k : Int))).put (some 50) (.bool true)).put (some 51) (.bool true)).put (some 52) (.slice (some ⟨g, o, none⟩) n c)).put (some 53) (.int .i64 (k : Int))).put (some 54) (.pointer (some ⟨g, o + k, none⟩))).put (some 55) (.string s)).put (some 56) (.slice (some ⟨g, o, none⟩) n c)).put (some 57) (.int .i64 (k : Int))).put (some 58) (.int .i64 (j : Int))).put (some 59) (.pointer (some ⟨g, o + j, none⟩))).put (some 60) (.string t)).put (some 61) (.bool r)).put (some 62) (.bool r) → Q .normal a' w') :
    (Code.region 9 rke9y_ops true).wp Tryz.prog Q a w := by
  refine y0 (fun w' => w' = w.drew) (rfl) (fun hHeld => ?_)
  refine yv 0 rfl rfl (fun w1 hw => exec_move rfl (zi t8 rfl)) hHeld ?_
  refine yv (v := .bool true) 1 rfl rfl (fun w1 hw => ex_gtz (decide_eq_true (by omega)) rfl (zg zz rfl) rfl) hHeld ?_
  refine yv 2 rfl rfl (fun w1 hw => exec_move rfl (zg zz rfl)) hHeld ?_
  refine yv 3 rfl (zw zz rfl rfl rfl (zg zz rfl)) (fun w1 hw => exec_move rfl (zi t5 rfl)) hHeld ?_
  refine yv 4 rfl (zw zz rfl rfl rfl (zg zz rfl)) (fun w1 hw => exec_move rfl (zi t8 rfl)) hHeld ?_
  refine yv 5 rfl (zw zz rfl rfl rfl (zg zz rfl)) (fun w1 hw => exec_indexAt rfl (zg zz rfl) (zg zz rfl) (ix_tx hk hm _)) hHeld ?_
  refine yv 6 rfl (zw zz rfl rfl rfl (zg zz rfl)) (fun w1 hw => exec_load rfl (zg zz rfl) (L1 _ hw)) hHeld ?_
  refine yv 7 rfl (zw zz rfl rfl rfl (zg zz rfl)) (fun w1 hw => exec_move rfl (zi t5 rfl)) hHeld ?_
  refine yv 8 rfl (zw zz rfl rfl rfl (zg zz rfl)) (fun w1 hw => exec_move rfl (zi t8 rfl)) hHeld ?_
  refine yv (v := .int .i64 (j : Int)) 9 rfl (zw zz rfl rfl rfl (zg zz rfl)) (fun w1 hw => exec_sub1 rfl (zg zz rfl) rfl hjk hs) hHeld ?_
  refine yv 10 rfl (zw zz rfl rfl rfl (zg zz rfl)) (fun w1 hw => exec_indexAt rfl (zg zz rfl) (zg zz rfl) (ix_tx hj hm _)) hHeld ?_
  refine yv 11 rfl (zw zz rfl rfl rfl (zg zz rfl)) (fun w1 hw => exec_load rfl (zg zz rfl) (L2 _ hw)) hHeld ?_
  refine yv (v := .bool r) 12 rfl (zw zz rfl rfl rfl (zg zz rfl)) (fun w1 hw => ex_ltx rfl (zg zz rfl) (zg zz rfl) (EL _)) hHeld ?_
  refine yv 13 rfl rfl (fun w1 hw => exec_pickT rfl (zg zz rfl) (zg zz rfl)) hHeld ?_
  exact ye rfl (h _ _ (hHeld) rfl)
def rke11_o0 : Oper := ⟨some 65, .move (.tmp 5), 74, "ref.go:166", #[], none⟩
def rke11_o1 : Oper := ⟨some 66, .move (.tmp 8), 3, "ref.go:166", #[], none⟩
def rke11_o2 : Oper := ⟨some 67, .indexAddr 74 (.tmp 65) (.tmp 66), 0, "ref.go:166", #[⟨0, .data⟩, ⟨1, .data⟩], none⟩
def rke11_o3 : Oper := ⟨some 68, .load 9 (.tmp 67), 9, "ref.go:166", #[⟨2, .data⟩], none⟩
def rke11_o4 : Oper := ⟨some 9, .assign (.tmp 68), 9, "ref.go:166", #[⟨3, .data⟩, ⟨0, .phase⟩, ⟨1, .phase⟩, ⟨2, .phase⟩, ⟨3, .phase⟩], none⟩
def rke11_ops : Array Oper := #[rke11_o0, rke11_o1, rke11_o2, rke11_o3, rke11_o4]
theorem rke11 {g o n c k : Nat} {s : ByteArray} (a : Act) (w : World) (Q : Exit → Act → World → Prop) (zz : a.tmps.size = 83)
    (t5 : a.tmps.getD 5 undef = .slice (some ⟨g, o, none⟩) n c)
    (t8 : a.tmps.getD 8 undef = .int .i64 (k : Int))
    (hk : k < n) (hm : n ≤ 9223372036854775807) (L1 : ∀ W, W = w → (Instr.loadAt 9 (.pointer (some ⟨g, o + k, none⟩))).run Tryz.prog W = .ok (.string s) W)
    (h : ∀ (a' : Act) (w' : World), w' = w → a' = (((((a).put (some 65) (.slice (some ⟨g, o, none⟩) n c)).put (some 66) (.int .i64 (k : Int))).put (some 67) (.pointer (some ⟨g, o + k, none⟩))).put (some 68) (.string s)).put (some 9) (.string s) → Q .normal a' w') :
    (Code.region 11 rke11_ops false).wp Tryz.prog Q a w := by
  refine z0 rfl ?_
  refine zv rfl (exec_move rfl (zi t5 rfl)) ?_
  refine zv rfl (exec_move rfl (zi t8 rfl)) ?_
  refine zv rfl (exec_indexAt rfl (zg zz rfl) (zg zz rfl) (ix_tx hk hm _)) ?_
  refine zv rfl (exec_load rfl (zg zz rfl) (L1 _ rfl)) ?_
  refine zv rfl (exec_assign rfl (zg zz rfl)) ?_
  exact ze rfl (h _ _ (rfl) rfl)
def rke12_o0 : Oper := ⟨some 69, .move (.tmp 5), 74, "ref.go:167", #[], none⟩
def rke12_o1 : Oper := ⟨some 70, .move (.tmp 8), 3, "ref.go:167", #[], none⟩
def rke12_o2 : Oper := ⟨some 71, .move (.tmp 5), 74, "ref.go:167", #[], none⟩
def rke12_o3 : Oper := ⟨some 72, .move (.tmp 8), 3, "ref.go:167", #[], none⟩
def rke12_o4 : Oper := ⟨some 73, .binOp BinOp.sub 3 (.tmp 72) (Operand.const (Value.int IntKind.i64 1)) 3, 3, "ref.go:167", #[⟨3, .data⟩], none⟩
def rke12_o5 : Oper := ⟨some 74, .indexAddr 74 (.tmp 71) (.tmp 73), 0, "ref.go:167", #[⟨2, .data⟩, ⟨4, .data⟩], none⟩
def rke12_o6 : Oper := ⟨some 75, .load 9 (.tmp 74), 9, "ref.go:167", #[⟨5, .data⟩], none⟩
def rke12_o7 : Oper := ⟨some 76, .indexAddr 74 (.tmp 69) (.tmp 70), 0, "ref.go:167", #[⟨0, .data⟩, ⟨1, .data⟩, ⟨0, .phase⟩, ⟨1, .phase⟩, ⟨2, .phase⟩, ⟨3, .phase⟩, ⟨4, .phase⟩, ⟨5, .phase⟩, ⟨6, .phase⟩], none⟩
def rke12_o8 : Oper := ⟨none, .store 9 (.tmp 76) (.tmp 75), 0, "ref.go:167", #[⟨7, .data⟩, ⟨6, .data⟩, ⟨0, .phase⟩, ⟨1, .phase⟩, ⟨2, .phase⟩, ⟨3, .phase⟩, ⟨4, .phase⟩, ⟨5, .phase⟩, ⟨6, .phase⟩], none⟩
def rke12_ops : Array Oper := #[rke12_o0, rke12_o1, rke12_o2, rke12_o3, rke12_o4, rke12_o5, rke12_o6, rke12_o7, rke12_o8]
theorem rke12 {g o n c k j : Nat} {t : ByteArray} {w1 : World} (a : Act) (w : World) (Q : Exit → Act → World → Prop) (zz : a.tmps.size = 83)
    (t5 : a.tmps.getD 5 undef = .slice (some ⟨g, o, none⟩) n c)
    (t8 : a.tmps.getD 8 undef = .int .i64 (k : Int))
    (hjk : j + 1 = k) (hs : k ≤ 9223372036854775800) (hk : k < n) (hj : j < n) (hm : n ≤ 9223372036854775807) (L2 : ∀ W, W = w → (Instr.loadAt 9 (.pointer (some ⟨g, o + j, none⟩))).run Tryz.prog W = .ok (.string t) W) (E1 : (Instr.storeAt 9 (.pointer (some ⟨g, o + k, none⟩)) (.string t)).run Tryz.prog w = .ok () w1)
    (h : ∀ (a' : Act) (w' : World), w' = w1 → a' = ((((((((a).put (some 69) (.slice (some ⟨g, o, none⟩) n c)).put (some 70) (.int .i64 (k : Int))).put (some 71) (.slice (some ⟨g, o, none⟩) n c)).put (some 72) (.int .i64 (k : Int))).put (some 73) (.int .i64 (j : Int))).put (some 74) (.pointer (some ⟨g, o + j, none⟩))).put (some 75) (.string t)).put (some 76) (.pointer (some ⟨g, o + k, none⟩)) → Q .normal a' w') :
    (Code.region 12 rke12_ops false).wp Tryz.prog Q a w := by
  refine z0 rfl ?_
  refine zv rfl (exec_move rfl (zi t5 rfl)) ?_
  refine zv rfl (exec_move rfl (zi t8 rfl)) ?_
  refine zv rfl (exec_move rfl (zi t5 rfl)) ?_
  refine zv rfl (exec_move rfl (zi t8 rfl)) ?_
  refine zv (v := .int .i64 (j : Int)) rfl (exec_sub1 rfl (zg zz rfl) rfl hjk hs) ?_
  refine zv rfl (exec_indexAt rfl (zg zz rfl) (zg zz rfl) (ix_tx hj hm _)) ?_
  refine zv rfl (exec_load rfl (zg zz rfl) (L2 _ rfl)) ?_
  refine zv rfl (exec_indexAt rfl (zg zz rfl) (zg zz rfl) (ix_tx hk hm _)) ?_
  refine zs rfl (exec_store rfl (zg zz rfl) (zg zz rfl) E1) ?_
  exact ze rfl (h _ _ (rfl) rfl)
def rke13_o0 : Oper := ⟨some 77, .move (.tmp 5), 74, "ref.go:168", #[], none⟩
def rke13_o1 : Oper := ⟨some 78, .move (.tmp 8), 3, "ref.go:168", #[], none⟩
def rke13_o2 : Oper := ⟨some 79, .binOp BinOp.sub 3 (.tmp 78) (Operand.const (Value.int IntKind.i64 1)) 3, 3, "ref.go:168", #[⟨1, .data⟩], none⟩
def rke13_o3 : Oper := ⟨some 80, .move (.tmp 9), 9, "ref.go:168", #[], none⟩
def rke13_o4 : Oper := ⟨some 81, .indexAddr 74 (.tmp 77) (.tmp 79), 0, "ref.go:168", #[⟨0, .data⟩, ⟨2, .data⟩, ⟨0, .phase⟩, ⟨1, .phase⟩, ⟨2, .phase⟩, ⟨3, .phase⟩], none⟩
def rke13_o5 : Oper := ⟨none, .store 9 (.tmp 81) (.tmp 80), 0, "ref.go:168", #[⟨4, .data⟩, ⟨3, .data⟩, ⟨0, .phase⟩, ⟨1, .phase⟩, ⟨2, .phase⟩, ⟨3, .phase⟩], none⟩
def rke13_ops : Array Oper := #[rke13_o0, rke13_o1, rke13_o2, rke13_o3, rke13_o4, rke13_o5]
theorem rke13 {g o n c k j : Nat} {s : ByteArray} {w1 : World} (a : Act) (w : World) (Q : Exit → Act → World → Prop) (zz : a.tmps.size = 83)
    (t5 : a.tmps.getD 5 undef = .slice (some ⟨g, o, none⟩) n c)
    (t8 : a.tmps.getD 8 undef = .int .i64 (k : Int))
    (t9 : a.tmps.getD 9 undef = .string s)
    (hjk : j + 1 = k) (hs : k ≤ 9223372036854775800) (hj : j < n) (hm : n ≤ 9223372036854775807) (E1 : (Instr.storeAt 9 (.pointer (some ⟨g, o + j, none⟩)) (.string s)).run Tryz.prog w = .ok () w1)
    (h : ∀ (a' : Act) (w' : World), w' = w1 → a' = (((((a).put (some 77) (.slice (some ⟨g, o, none⟩) n c)).put (some 78) (.int .i64 (k : Int))).put (some 79) (.int .i64 (j : Int))).put (some 80) (.string s)).put (some 81) (.pointer (some ⟨g, o + j, none⟩)) → Q .normal a' w') :
    (Code.region 13 rke13_ops false).wp Tryz.prog Q a w := by
  refine z0 rfl ?_
  refine zv rfl (exec_move rfl (zi t5 rfl)) ?_
  refine zv rfl (exec_move rfl (zi t8 rfl)) ?_
  refine zv (v := .int .i64 (j : Int)) rfl (exec_sub1 rfl (zg zz rfl) rfl hjk hs) ?_
  refine zv rfl (exec_move rfl (zi t9 rfl)) ?_
  refine zv rfl (exec_indexAt rfl (zg zz rfl) (zg zz rfl) (ix_tx hj hm _)) ?_
  refine zs rfl (exec_store rfl (zg zz rfl) (zg zz rfl) E1) ?_
  exact ze rfl (h _ _ (rfl) rfl)
def docE (X : Sls) (D : List (SlV × Sls)) (j : Nat) : Prop := (∃ q ∈ X, q.1.2.v.ownBlock = some j) ∨ ∃ h ∈ D, ∃ q ∈ h.2, q.1.2.v.ownBlock = some j
theorem run_bs1 (T e y : TypeId) (z : Value) (ht : Tryz.prog.underlying T = some (.slice e)) (hi : (Tryz.prog.info? e).map (fun i => (i.zero, i.size, i.bytes)) = some (some z, 1, y)) (hz : z.cells.size = 1) (v : Value) (hc : v.cells = #[v]) (w : World) : (Instr.buildSlice T 1 #[(0, v)]).run Tryz.prog w = .ok (.slice (some ⟨w.heap.size, 0, none⟩) 1 1) (w.alloc (.cells #[v] e)) := by
  obtain ⟨ie, hi, hz0, hs, hby⟩ := info_parts hi
  refine run_buildSlice w T e 1 _ #[v] ie _ ht hi hz0 (by rw [hs]; decide) (by rw [hs]; decide) ?_
  rw [hs]
  have := Go.Great.fill_whole (s := 1) (by decide) [v] ((Array.range (1 * 1)).map (z.cells[· % z.cells.size]!)) (by intro u hu; simp at hu; subst hu; rw [hc]; rfl) (by simp)
  simpa [hc] using this
theorem run_pushV (T e y : TypeId) (z : Value) (ht : Tryz.prog.underlying T = some (.slice e)) (hi : (Tryz.prog.info? e).map (fun i => (i.zero, i.size, i.bytes)) = some (some z, 1, y)) (hy : y = 8 ∨ y = 24) (hz : z.cells.size = 1) (u : Value) (hc : u.cells = #[u]) (h1 : u.oneCell' = true)
    {w : World} {B : Nat} {pv : Value} {X : List Value} (own : OwnV w B e pv X) (hB : B ≤ w.heap.size) (hn : X.length + 1 ≤ 2000000000000) :
    ∃ bv w1 pv2 w2, (Instr.buildSlice T 1 #[(0, u)]).run Tryz.prog w = .ok bv w1 ∧ Below w.heap.size w w1 ∧ (Builtin.append_ #[T, T] T #[pv, bv]).run Tryz.prog w1 = .ok pv2 w2 ∧ OwnV w2 B e pv2 (X ++ [u]) ∧ Tch (fun j => pv.ownBlock = some j) w w2 ∧ (pv2.ownBlock = pv.ownBlock ∨ ∀ j, pv2.ownBlock = some j → w.heap.size ≤ j) := by
  have b1 : Below w.heap.size w (w.alloc (.cells #[u] e)) := (Below.refl _ _).alloc (Nat.le_refl _) _
  have v1 : Vals (w.alloc (.cells #[u] e)) (some ⟨w.heap.size, 0, none⟩) [u] := .inr ⟨_, _, rfl, fun j x hj => by
    rw [Nat.zero_add, cell_of_row _ _ _ _ _ _ (heap_alloc_new _ _)]
    simpa using hj⟩
  have e1 := run_bs1 T e y z ht hi hz u hc w
  generalize w.alloc (.cells #[u] e) = w1 at *
  obtain ⟨pv2, w2, e2, o2, g2, q2⟩ := run_appV T e y z ht hi hy hz w1 B T pv X _ [u] 1 (own.below b1) v1 (by intro x hx; rw [List.mem_singleton.1 hx]; exact h1) (by simpa using hn) (Nat.le_trans hB b1.size)
  have t2 : Tch (fun j => pv.ownBlock = some j) w1 w2 := ⟨g2.os, g2.tape, g2.output, g2.size, fun j hj hn => g2.block j hj (fun e => hn e.symm)⟩
  exact ⟨_, w1, pv2, w2, e1, b1, e2, o2, (tch_of b1 _).trans' t2 (fun j _ q => q), q2.imp id (fun q j hj => by rw [q] at hj; injection hj with hj; have := b1.size; omega)⟩
theorem infoSl : (Tryz.prog.info? 92).map (fun i => (i.zero, i.size, i.bytes)) = some (some (.slice none 0 0), 1, 24) := by kernel_rfl
theorem key_ok {X Y : Sls} (h : Y.key = X.key) (hk : SlOk X) : SlOk Y ∧ (∀ r, entF Y r = entF X r) ∧ Y.length = X.length := by
  have e1 : ∀ Z : Sls, Z.map (·.1.1) = Z.key.map (·.1) := fun Z => by simp [Sls.key]
  have hnd : (Y.map (·.1.1)).Nodup := by rw [e1, h, ← e1]; exact hk.nd
  have hne : ∀ q ∈ Y, q.2 ≠ [] := fun q hq => by
    have : (q.1.1, q.2) ∈ X.key := by rw [← h]; exact List.mem_map.2 ⟨q, hq, rfl⟩
    obtain ⟨z, hz, e⟩ := List.mem_map.1 this
    have := hk.ne z hz
    injection e with _ e
    rw [← e]
    exact this
  have hY : SlOk Y := ⟨hnd, hne⟩
  refine ⟨hY, fun r => ?_, by have := congrArg List.length h; simpa [Sls.key] using this⟩
  by_cases hr : ∃ q ∈ Y, q.1.1 = r
  · obtain ⟨q, hq, rfl⟩ := hr
    rw [ent_of_mem hY hq]
    have : (q.1.1, q.2) ∈ X.key := by rw [← h]; exact List.mem_map.2 ⟨q, hq, rfl⟩
    obtain ⟨z, hz, e⟩ := List.mem_map.1 this
    injection e with e1 e2
    rw [← e1, ← e2]
    exact (ent_of_mem hk hz).symm
  · rw [ent_none (fun q hq e => hr ⟨q, hq, e⟩), ent_none (fun z hz e => hr (by
      have : (z.1.1, z.2) ∈ Y.key := by rw [h]; exact List.mem_map.2 ⟨z, hz, rfl⟩
      obtain ⟨q, hq, e2⟩ := List.mem_map.1 this
      injection e2 with e2 _
      exact ⟨q, hq, e2.trans e⟩))]
def PastE (B : Nat) (W : World) (d : Nat) (X : Sls) (v : SlV) (pv : Value) (D : List (SlV × Sls)) (w' : World) : Prop := ∃ pv2 h, RfP B w' d X v pv2 (D ++ [h]) ∧ Sls.key h.2 = X.key ∧ Tch (fun j => j = d ∨ pv.ownBlock = some j) W w' ∧ (pv2.ownBlock = pv.ownBlock ∨ ∀ j, pv2.ownBlock = some j → W.heap.size ≤ j) ∧ (∀ q ∈ h.2, ∀ j, q.1.2.v.ownBlock = some j → W.heap.size ≤ j) ∧ ∀ j, h.1.v.ownBlock = some j → W.heap.size ≤ j
theorem st_past {w : World} {d : Nat} {a pv : Value} {s2 : SlV} (h : w.heap[d]? = some (.cells #[a, pv] 95 (0, 0))) (ha : ∃ s : SlV, pv = s.v) : ∃ w', (Instr.storeAt 93 (.pointer (some ⟨d, 0 + 1, none⟩)) s2.v).run Tryz.prog w = .ok () w' ∧ w'.heap[d]? = some (.cells #[a, s2.v] 95 (0, 0)) ∧ Tch (fun j => j = d) w w' := by
  obtain ⟨s, rfl⟩ := ha
  have c0 : w.cell? ⟨d, 1, none⟩ = some (.slice s.a s.n s.c) := (cell_of_row w d 1 _ _ _ h).trans rfl
  have f0 := frozen_of_row w d 1 _ _ h
  refine ⟨w.setCell ⟨d, 1, none⟩ (.slice s2.a s2.n s2.c), ?_, ?_, ⟨rfl, rfl, rfl, by simp [World.setCell], fun j _ hj => Go.heap_setCell_other _ _ _ _ hj⟩⟩
  · unfold SlV.v
    go_simp
  · exact Go.heap_setCell_same w d 1 _ 95 _ h
section
variable {B : Nat} {W : World} {d : Nat} {X : Sls} {v : SlV} {pv : Value} {D : List (SlV × Sls)}
theorem past_step (h : RfP B W d X v pv D) (hB : B ≤ W.heap.size) (hn : X.length ≤ 1100000000000) (hD : D.length + 1 ≤ 2000000000000) :
    Calls Tryz.prog 71 #[v.v] W fun e w' => ∃ u bv w1 pv2 w2 w3, e = .returned u ∧ w'.heap[d]? = some (.cells #[v.v, pv] 95 (0, 0)) ∧ (Instr.buildSlice 93 1 #[(0, u)]).run Tryz.prog w' = .ok bv w1 ∧ w1.heap[d]? = some (.cells #[v.v, pv] 95 (0, 0)) ∧ (Builtin.append_ #[93, 93] 93 #[pv, bv]).run Tryz.prog w1 = .ok pv2 w2 ∧ w2.heap[d]? = some (.cells #[v.v, pv] 95 (0, 0)) ∧ (Instr.storeAt 93 (.pointer (some ⟨d, 0 + 1, none⟩)) pv2).run Tryz.prog w2 = .ok () w3 ∧ PastE B W d X v pv D w3 := by
  obtain ⟨a, c, ev, hat⟩ := h.rfS
  rw [ev]
  refine (copied_any h.en hn (c := c) hat).mono ?_
  rintro e w' ⟨u, Y, rfl, hkey, hO, hS, b⟩
  have ld := (Array.getElem?_eq_some_iff.1 h.cell).1
  have h' := h.below b
  obtain ⟨bv, w1, pv2, w2, E1, b1, E2, o2, t2, q2⟩ := run_pushV 93 92 24 _ Tryz.underlying93 infoSl (.inr rfl) rfl u.v rfl rfl h'.past (Nat.le_trans hB b.size) (by rw [List.length_map]; exact hD)
  have c' := h'.cell
  have ld' := (Array.getElem?_eq_some_iff.1 c').1
  have npd : ¬ pv.ownBlock = some d := fun e => by
    obtain ⟨_, c2, hc2⟩ := h'.past.ge d e
    have := two_types hc2 c'
    revert this; decide
  have c1 := (b1.block d ld').trans c'
  have c2 := (t2.block d ld' npd).trans c'
  obtain ⟨oa, oc, eo, _⟩ := o2.open
  obtain ⟨ps, hps⟩ := h.pastS
  obtain ⟨w3, E3, c3, t3⟩ := st_past (s2 := ⟨oa, _, oc⟩) c2 ⟨ps, hps⟩
  have n2d : ¬ pv2.ownBlock = some d := fun e => by
    obtain ⟨_, c4, hc4⟩ := o2.ge d e
    have := two_types hc4 c2
    revert this; decide
  have t23 : Tch (fun j => j = d ∨ pv.ownBlock = some j) w' w3 := (t2.mono (fun j _ e => .inr e)).trans' t3 (fun j _ e => .inl e)
  have tt : Tch (fun j => j = d ∨ pv.ownBlock = some j) W w3 := (tch_of b _).trans' t23 (fun j _ q => q)
  have ty : ∀ {j : Nat} {c : Array Value} {t : TypeId} {f : Nat × Nat}, w'.heap[j]? = some (.cells c t f) → t ≠ 95 → t ≠ 92 → ¬ (j = d ∨ pv.ownBlock = some j) := fun hj h1 h2 e => by
    rcases e with e | e
    · rw [e] at hj
      exact h1 (two_types hj c')
    · obtain ⟨_, c4, hc4⟩ := h'.past.ge _ e
      exact h2 (two_types hj hc4)
  have kR : ∀ {u : Value} {Z : List (PlK × SlV)} {b0 : Nat}, RT.Own w' b0 u Z → RT.Own w3 b0 u Z := fun hu => hu.keep (fun j hj => by
    obtain ⟨_, c4, hc4⟩ := hu.cells hj
    exact t23.block j (hu.lt hj) (ty hc4 (by decide) (by decide)))
  have kS : ∀ {Z : Sls} {b0 : Nat}, SlsAt w' b0 Z → SlsAt w3 b0 Z := fun hZ q hq => ⟨(hZ q hq).1.keep (fun j hj => by
    obtain ⟨_, c4, hc4⟩ := (hZ q hq).1.cells hj
    exact t23.block j ((hZ q hq).1.lt hj) (ty hc4 (by decide) (by decide))), (hZ q hq).2⟩
  obtain ⟨okY, _, _⟩ := key_ok hkey h.ok
  have newb : ∀ j, u.v.ownBlock = some j → W.heap.size ≤ j := fun j hj => (hO.cells hj).1
  refine ⟨u.v, bv, w1, pv2, w2, w3, rfl, by rw [← ev]; exact c', E1, by rw [← ev]; exact c1, E2, by rw [← ev]; exact c2, by rw [eo]; exact E3, pv2, (u, Y), ⟨?_, kR h'.sl, kS h'.en, ?_, fun q hq => ?_, h.dB, fun q hq j hj => ?_, ?_, h.ok⟩, hkey, tt, ?_, fun q hq j hj => ((hS q hq).1.cells hj).1, newb⟩
  · rw [eo]; exact c3
  · rw [List.map_append]
    exact o2.keep (fun j hj => t3.block j (by obtain ⟨_, c4, hc4⟩ := o2.ge j hj; exact (Array.getElem?_eq_some_iff.1 hc4).1) (fun e => n2d (by rw [← e]; exact hj)))
  · rcases List.mem_append.1 hq with hq | hq
    · exact ⟨kR (h'.ph q hq).1, kS (h'.ph q hq).2.1, (h'.ph q hq).2.2⟩
    · rw [List.mem_singleton.1 hq]
      exact ⟨(kR hO).mono hB, (kS hS).mono hB, okY⟩
  · rcases List.mem_append.1 hq with hq | hq
    · exact h.ap q hq j hj
    · rw [List.mem_singleton.1 hq] at hj
      have := newb j hj
      intro e
      have := h.sl.lt e
      omega
  · rw [List.pairwise_append]
    refine ⟨h.ap2, List.pairwise_singleton _ _, fun x hx y hy j hj => ?_⟩
    rw [List.mem_singleton.1 hy]
    intro e
    have := newb j e
    have := (h.ph x hx).1.lt hj
    omega
  · exact q2.imp id (fun q j hj => Nat.le_trans b.size (q j hj))
end
def pA : PlK := ⟨zId, ⟨#[97]⟩, zId⟩
theorem pA_ok : pA.ok := ⟨zId_ok, by decide, zId_ok⟩
def idN (n : Int) : IdK := { zId with n := n }
theorem idN_ok {n : Int} (h : -9223372036854775808 ≤ n ∧ n ≤ 9223372036854775807) : (idN n).ok := ⟨zId_ok.l, h.1, h.2⟩
theorem build_pA (w : World) : (Instr.build 68 #[(1, .string ⟨#[97]⟩)]).run Tryz.prog w = .ok pA.v w := by kernel_rfl
theorem build_i1 (w : World) : (Instr.build 59 #[(1, .int .i64 1)]).run Tryz.prog w = .ok (idN 1).v w := by kernel_rfl
theorem build_i2 (w : World) : (Instr.build 59 #[(1, .int .i64 2)]).run Tryz.prog w = .ok (idN 2).v w := by kernel_rfl
def vC (n : Int) : VaV := ⟨7, n, 0, ⟨#[]⟩⟩
theorem vC_ok {n : Int} (h : -9223372036854775808 ≤ n ∧ n ≤ 9223372036854775807) : (vC n).ok := ⟨by show (0 : Int) ≤ 7; decide, by show (7 : Int) ≤ 255; decide, h.1, h.2, by show (0 : Nat) < _; decide, by show (0 : Nat) ≤ _; decide⟩
theorem build_vC (w : World) : (Instr.build 63 #[(0, .int .u8 7), (1, .int .i64 5)]).run Tryz.prog w = .ok (vC 5).v w := by kernel_rfl
theorem build_v0 (w : World) : (Instr.build 63 #[]).run Tryz.prog w = .ok zVa.v w := by kernel_rfl
theorem sum_live : sumV 3 (vC 5) = vC 8 := by decide +kernel
theorem one_place {w : World} {base : Nat} {s : Rs} (m : RgM w base s) {p : PlK} (h : ∀ q, liOf s.P q ≠ [] ↔ q = p) : s.P.length = 1 := by
  have hk := m.places
  have hin : ∀ q ∈ s.P, q.1 = p := fun q hq => (h q.1).1 (by
    unfold liOf
    rw [M.look_of_mem hk (show (q.1, q.2) ∈ s.P from hq)]
    exact (m.en q hq).2.1)
  have hne : s.P ≠ [] := fun e => by
    have := (h p).2 rfl
    rw [e] at this
    exact this rfl
  match hP : s.P with
  | [] => exact absurd hP hne
  | [q] => rfl
  | q :: r :: l =>
    rw [hP] at hk hin
    have h1 := hin q (by simp)
    have h2 := hin r (by simp)
    simp [h1, h2] at hk
theorem RgM.geAll {w : World} {base : Nat} {s : Rs} (h : RgM w base s) {j : Nat} (hj : s.all j) : base ≤ j := by
  rcases hj with hj | ⟨q, hq, e⟩
  · exact h.lo j hj
  · exact ((h.en q hq).1.cells e).1
structure LSt (w : World) (r0 pb xb yb : Nat) (p : PlK) (x y : IdK) (s : Rs) (H : List Rec) (L : List EnV) (W : World) : Prop where
  ra : RgAt W w.heap.size s H
  bel : Below w.heap.size w W
  np : W.heap[pb]? = some (.cells p.c.toArray 68 (0, 0))
  nx : W.heap[xb]? = some (.cells x.c.toArray 59 (0, 0))
  ny : W.heap[yb]? = some (.cells y.c.toArray 59 (0, 0))
  li : ∀ q, liOf s.P q = if q = p then L else []
  r : s.r = r0
section
variable {w W W' : World} {r0 pb xb yb : Nat} {p : PlK} {x y : IdK} {s : Rs} {H : List Rec} {L : List EnV}
theorem LSt.below (h : LSt w r0 pb xb yb p x y s H L W) (b : Below W.heap.size W W') : LSt w r0 pb xb yb p x y s H L W' :=
  ⟨h.ra.below b, h.bel.trans (b.mono h.bel.size), (b.block _ (Array.getElem?_eq_some_iff.1 h.np).1).trans h.np, (b.block _ (Array.getElem?_eq_some_iff.1 h.nx).1).trans h.nx, (b.block _ (Array.getElem?_eq_some_iff.1 h.ny).1).trans h.ny, h.li, h.r⟩
theorem LSt.tch (h : LSt w r0 pb xb yb p x y s H L W) (t : Tch s.all W W') : Below w.heap.size w W' ∧ W'.heap[pb]? = some (.cells p.c.toArray 68 (0, 0)) ∧ W'.heap[xb]? = some (.cells x.c.toArray 59 (0, 0)) ∧ W'.heap[yb]? = some (.cells y.c.toArray 59 (0, 0)) := by
  have go : ∀ {j : Nat} {c : Array Value} {ty : TypeId}, W.heap[j]? = some (.cells c ty (0, 0)) → ty ≠ 91 → ty ≠ 85 → W'.heap[j]? = some (.cells c ty (0, 0)) := fun h1 h2 h3 => (t.block _ (Array.getElem?_eq_some_iff.1 h1).1 (h.ra.mem.other h1 h2 h3)).trans h1
  exact ⟨h.bel.trans (t.below h.bel.size (fun j hj => h.ra.mem.geAll hj)), go h.np (by decide) (by decide), go h.nx (by decide) (by decide), go h.ny (by decide) (by decide)⟩
theorem LSt.op (h : LSt w r0 pb xb yb p x y s H L W) {L' : List EnV} {rc : Rec} {s' : Rs} (o : OpN W w.heap.size s H p L' rc s' W') : LSt w r0 pb xb yb p x y s' (rc :: H) L' W' := by
  obtain ⟨h1, h2, h3, h4⟩ := h.tch o.tch
  refine ⟨o.at', h1, h2, h3, h4, fun q => ?_, o.r.trans h.r⟩
  rw [o.li]
  by_cases e : q = p
  · rw [if_pos e, if_pos e]
  · rw [if_neg e, if_neg e, h.li, if_neg e]
theorem LSt.here (h : LSt w r0 pb xb yb p x y s H L W) : liOf s.P p = L := by rw [h.li, if_pos rfl]
end
def LFin (w : World) (r0 pb xb yb : Nat) (p : PlK) (x y : IdK) (n0 : Nat) (L0 : List EnV) (H : List Rec) (L : List EnV) (bk : Nat) (W : World) : Prop := ∃ rc s', rc.bk = bk ∧ LSt w r0 pb xb yb p x y s' (rc :: H) L W ∧ n0 ≤ rc.bk ∧ rc.p = p ∧ rc.bef = L0
section
variable {w W : World} {r0 pb xb yb : Nat} {p : PlK} {x y : IdK} {s : Rs} {H : List Rec} {L L' : List EnV} {F : Nat} {vs : Array Value}
theorem LSt.fin (h : LSt w r0 pb xb yb p x y s H L W) (c : Calls Tryz.prog F vs W (OpE W w.heap.size s H p L')) : Calls Tryz.prog F vs W fun e w' => ∃ bk, e = .returned (.pointer (some ⟨bk, 0, none⟩)) ∧ LFin w r0 pb xb yb p x y W.heap.size L H L' bk w' := by
  refine c.mono ?_
  rintro e w' ⟨rc, s', rfl, o⟩
  exact ⟨_, rfl, rc, s', rfl, h.op o, o.new, o.rp, o.rb.trans h.here⟩
theorem LSt.put (h : LSt w r0 pb xb yb p x y s H L W) (hp : p.ok) {i : IdK} (hi : i.ok) {v : VaV} (hv : v.ok) (hn : L.length ≤ 1000) : Calls Tryz.prog 18 #[.pointer (some ⟨r0, 0, none⟩), p.v, i.v, v.v, .nilFunc] W fun e w' => ∃ bk, e = .returned (.pointer (some ⟨bk, 0, none⟩)) ∧ LFin w r0 pb xb yb p x y W.heap.size L H (L ++ [⟨i, v⟩]) bk w' := by
  have c := put_any h.ra h.bel.size hp hi hv (fv := .nilFunc) (sn := fun _ => false) (.inl ⟨rfl, fun _ => rfl⟩) (by rw [h.here]; omega)
  rw [h.here, h.r] at c
  have e : Rg.res (fun y : EnV => (fun _ : IdK => false) y.id) L = L := List.filter_eq_self.2 fun _ _ => rfl
  rw [e] at c
  exact h.fin c
theorem LSt.ld (h : LSt w r0 pb xb yb p x y s H L W) (hp : p.ok) : ∀ V, V = W → (Instr.loadAt 68 (.pointer (some ⟨pb, 0, none⟩))).run Tryz.prog V = .ok p.v V := fun V e => by rw [e]; exact ld_pl hp (rng_cells h.np)
theorem LSt.ldx (h : LSt w r0 pb xb yb p x y s H L W) (hx : x.ok) : ∀ V, V = W → (Instr.loadAt 59 (.pointer (some ⟨xb, 0, none⟩))).run Tryz.prog V = .ok x.v V := fun V e => by rw [e]; exact load_id hx h.nx
theorem LSt.ldy (h : LSt w r0 pb xb yb p x y s H L W) (hy : y.ok) : ∀ V, V = W → (Instr.loadAt 59 (.pointer (some ⟨yb, 0, none⟩))).run Tryz.prog V = .ok y.v V := fun V e => by rw [e]; exact load_id hy h.ny
theorem LSt.ent (h : LSt w r0 pb xb yb p x y s H L W) (hp : p.ok) (hn : L.length ≤ 1000) : Calls Tryz.prog 10 #[.pointer (some ⟨r0, 0, none⟩), p.v] W fun e w' => ∃ u, e = .returned u ∧ (RN.Own w' W.heap.size u L ∧ LSt w r0 pb xb yb p x y s H L w') := by
  have c := entries_any h.ra.mem hp (by rw [h.here]; omega)
  rw [h.here, h.r] at c
  refine c.mono ?_
  rintro e w' ⟨v, rfl, o, b⟩
  exact ⟨v, rfl, o, h.below b⟩
end
set_option maxHeartbeats 8000000 in
theorem live_gen (w : World) (p : PlK) (hp : p.ok) (x y : IdK) (hx : x.ok) (hy : y.ok) (v5 v8 v0 : VaV) (h5 : v5.ok) (h0 : v0.ok) (h8 : v8.n = 8) (hs : sumV 3 v5 = v8) (h8k : v8.ok)
    (BP : Hid (∀ w, (Instr.build 68 #[(1, .string ⟨#[97]⟩)]).run Tryz.prog w = .ok p.v w)) (BX : Hid (∀ w, (Instr.build 59 #[(1, .int .i64 1)]).run Tryz.prog w = .ok x.v w)) (BY : Hid (∀ w, (Instr.build 59 #[(1, .int .i64 2)]).run Tryz.prog w = .ok y.v w))
    (BV : Hid (∀ w, (Instr.build 63 #[(0, .int .u8 7), (1, .int .i64 5)]).run Tryz.prog w = .ok v5.v w)) (B0 : Hid (∀ w, (Instr.build 63 #[]).run Tryz.prog w = .ok v0.v w)) :
    Calls Tryz.prog 4 #[] w fun e w' => e = .returned (.bool true) ∧ Below w.heap.size w w' := by
  have HN := hidMk (newR_any w)
  have HV := hidMk (And.intro h5 (And.intro h0 (And.intro h8 (And.intro hs h8k))))
  clear h5 h0 h8 hs h8k
  go_enter Tryz.func4, Tryz.ntmps4
  go_upto_region 2 with (first
    | (go_at_call 5; refine HN.out.mono ?_; rintro e w1 ⟨s, rfl, ra, rl, rp, b1⟩; clear HN)
    | fail)
  obtain ⟨w2, w3, e2, e3, n3, b3⟩ := pl_new w1 hp
  obtain ⟨w4, w5, e4, e5, n5, b5⟩ := id_newR w3 hx
  obtain ⟨w6, w7, e6, e7, n7, b7⟩ := id_newR w5 hy
  have b37 := b5.trans (b7.mono b5.size)
  have b17 := b3.trans (b37.mono b3.size)
  have st7 : Hid (LSt w s.r w1.heap.size w3.heap.size w5.heap.size p x y s [] [] w7) := ⟨ra.below b17, b1.trans (b17.mono b1.size), (b37.block _ (Array.getElem?_eq_some_iff.1 n3).1).trans n3, (b7.block _ (Array.getElem?_eq_some_iff.1 n5).1).trans n5, n7, fun q => by rw [rl]; split <;> rfl, rfl⟩
  generalize w1.heap.size = pb at *
  generalize w3.heap.size = xb at *
  generalize w5.heap.size = yb at *
  generalize s.r = r0 at *
  have HE := hidMk (And.intro e2 (And.intro e3 (And.intro e4 (And.intro e5 (And.intro e6 e7)))))
  clear e2 e3 e4 e5 e6 e7 n3 b3 n5 b5 n7 b7 b37 b17 ra rl rp b1
  refine live2 (b := pb) (u := p.v) (w1 := w2) (w2 := w3) _ w1 _ rfl (BP.out _) HE.out.1 HE.out.2.1 ?_
  intro a' w' hw' ha
  subst ha
  subst hw'
  simp only [Act.put, List.setIfInBounds_toArray, List.set_cons_zero, List.set_cons_succ]
  go_upto_region 3 with fail
  refine live3 (b := xb) (u := x.v) (w1 := w4) (w2 := w5) _ _ _ rfl (BX.out _) HE.out.2.2.1 HE.out.2.2.2.1 ?_
  intro a' w' hw' ha
  subst ha
  subst hw'
  simp only [Act.put, List.setIfInBounds_toArray, List.set_cons_zero, List.set_cons_succ]
  go_upto_region 4 with fail
  refine live4 (b := yb) (u := y.v) (w1 := w6) (w2 := w7) _ _ _ rfl (BY.out _) HE.out.2.2.2.2.1 HE.out.2.2.2.2.2 ?_
  intro a' w' hw' ha
  subst ha
  subst hw'
  simp only [Act.put, List.setIfInBounds_toArray, List.set_cons_zero, List.set_cons_succ]
  clear HE BP BX BY
  go_upto_region 5 with fail
  refine live5 (rb := r0) (pb := pb) (xb := xb) (p := p) (x := x) (v := v5) (LFin w r0 pb xb yb p x y _ [] [] [⟨x, v5⟩]) _ _ _ rfl rfl rfl rfl (BV.out _) (st7.out.ld hp) (st7.out.ldx hx) (st7.out.put hp hx HV.out.1 (by simp)) ?_
  intro bk1 a' w8 hf ha
  subst ha
  simp only [Act.put, List.setIfInBounds_toArray, List.set_cons_zero, List.set_cons_succ]
  obtain ⟨r1, s1, rfl, st8', -⟩ := hf
  have st8 := hidMk st8'
  clear st8' st7
  have CA : Hid (Calls Tryz.prog 19 #[.pointer (some ⟨r0, 0, none⟩), p.v, .int .i64 3, .func (.func 20) #[] #[.pointer (some ⟨xb, 0, none⟩)]] w8 fun e w' => ∃ bk, e = .returned (.pointer (some ⟨bk, 0, none⟩)) ∧ LFin w r0 pb xb yb p x y w8.heap.size [⟨x, v5⟩] [r1] [⟨x, v8⟩] bk w') := by
    have h := st8.out
    have c := add_any h.ra h.bel.size hp (n := 3) (by decide) (.inr ⟨_, _, rfl, tells_live hx h.nx⟩) (by rw [h.here]; simp)
    rw [h.here, h.r] at c
    have e : chs (fun y : EnV => decide (y.id = x)) (sumV 3) [⟨x, v5⟩] = [⟨x, v8⟩] := by
      simp [chs, chg, HV.out.2.2.2.1]
    rw [e] at c
    exact h.fin c
  go_upto_region 6 with fail
  refine live6 (rb := r0) (pb := pb) (xb := xb) (p := p) (LFin w r0 pb xb yb p x y w8.heap.size [⟨x, v5⟩] [r1] [⟨x, v8⟩]) _ _ _ rfl rfl rfl rfl (st8.out.ld hp) CA.out ?_
  intro bk2 a' w9 hf ha
  subst ha
  simp only [Act.put, List.setIfInBounds_toArray, List.set_cons_zero, List.set_cons_succ]
  obtain ⟨r2, s2, rfl, st9', -⟩ := hf
  have st9 := hidMk st9'
  clear st9' CA st8 BV
  go_upto_region 7 with fail
  refine live7 (rb := r0) (pb := pb) (xb := yb) (p := p) (x := y) (v := v0) (LFin w r0 pb xb yb p x y w9.heap.size [⟨x, v8⟩] [r2, r1] [⟨x, v8⟩, ⟨y, v0⟩]) _ _ _ rfl rfl rfl rfl (B0.out _) (st9.out.ld hp) (st9.out.ldy hy) (st9.out.put hp hy HV.out.2.1 (by simp)) ?_
  intro bk3 a' w10 hf ha
  subst ha
  simp only [Act.put, List.setIfInBounds_toArray, List.set_cons_zero, List.set_cons_succ]
  obtain ⟨r3, s3, rfl, st10', hnew, hr3p, hr3b⟩ := hf
  have st10 := hidMk st10'
  have H13 : Hid (r1.bk ≠ r3.bk ∧ r3.p = p ∧ r3.bef = [⟨x, v8⟩]) := by
    have l1 := (Array.getElem?_eq_some_iff.1 st9.out.ra.hist.2.1.b).1
    exact ⟨by omega, hr3p, hr3b⟩
  clear st10' st9 B0 hnew hr3p hr3b
  go_upto_region 8 with fail
  refine live8 (rb := r0) (pb := pb) (p := p) (fun u w' => RN.Own w' w10.heap.size u [⟨x, v8⟩, ⟨y, v0⟩] ∧ LSt w r0 pb xb yb p x y s3 [r3, r2, r1] [⟨x, v8⟩, ⟨y, v0⟩] w') _ _ _ rfl rfl rfl (st10.out.ld hp) (st10.out.ent hp (by simp)) ?_
  intro u a' w11 hf ha
  subst ha
  simp only [Act.put, List.setIfInBounds_toArray, List.set_cons_zero, List.set_cons_succ]
  obtain ⟨ou, st11'⟩ := hf
  have ok2 : ∀ z ∈ ([⟨x, v8⟩, ⟨y, v0⟩] : List EnV), z.ok := fun z hz => by
    simp at hz
    rcases hz with rfl | rfl
    · exact ⟨hx, HV.out.2.2.2.2⟩
    · exact ⟨hy, HV.out.2.1⟩
  obtain ⟨ua, uc, rfl, hat, -⟩ := ou.lo.open RN_is ok2
  obtain ⟨g, o, rfl, hg1, hg2⟩ : ∃ g o, ua = some ⟨g, o, none⟩ ∧ w11.rangeAt g (o + 37 * 0) (EnV.c ⟨x, v8⟩) ∧ w11.rangeAt g (o + 37 * 1) (EnV.c ⟨y, v0⟩) := by
    rcases hat with h | ⟨g, o, e, h1, h2⟩
    · cases h
    · exact ⟨g, o, e, h2 0 _ rfl, h2 1 _ rfl⟩
  have st11 := hidMk (st11'.below (Below.refl w11.heap.size w11).drew)
  have LL : Hid ((∀ W, W = w11.drew → (Instr.loadAt 59 (.pointer (some ⟨g, o + 37 * 0 + 0, none⟩))).run Tryz.prog W = .ok x.v W) ∧ (∀ W, W = w11.drew → (Instr.loadAt 2 (.pointer (some ⟨g, o + 37 * 0 + 33 + 1, none⟩))).run Tryz.prog W = .ok (.int .i64 8) W) ∧ (∀ W, W = w11.drew → (Instr.loadAt 59 (.pointer (some ⟨g, o + 37 * 1 + 0, none⟩))).run Tryz.prog W = .ok y.v W)) := by
    refine ⟨fun W e => ?_, fun W e => ?_, fun W e => ?_⟩
    · rw [e]; exact en_id (x := ⟨x, v8⟩) (w := w11.drew) (ok2 _ (by simp)) hg1
    · rw [e]
      have hc : w11.drew.cell? ⟨g, o + 37 * 0 + 33 + 1, none⟩ = some (.int .i64 v8.n) := rng_va (x := ⟨x, v8⟩) (w := w11.drew) (ok2 _ (by simp)) hg1 1 _ rfl
      rw [HV.out.2.2.1] at hc
      go_simp
    · rw [e]; exact en_id (x := ⟨y, v0⟩) (w := w11.drew) (ok2 _ (by simp)) hg2
  have CL : Hid (Calls Tryz.prog 17 #[.pointer (some ⟨r0, 0, none⟩)] w11.drew fun e w' => e = .returned (.int .i64 1) ∧ w' = w11.drew) := by
    have c := len_any st11.out.ra.mem
    rw [one_place st11.out.ra.mem (p := p) (fun q => by
      rw [st11.out.li]
      by_cases e : q = p
      · simp [e]
      · simp [e]), st11.out.r] at c
    exact c
  have U1 : Hid (Calls Tryz.prog 21 #[.pointer (some ⟨r0, 0, none⟩), .pointer (some ⟨r1.bk, 0, none⟩)] w11.drew fun e w' => e = .returned (.int .i64 2) ∧ w' = w11.drew) := by
    have h := st11.out.ra
    have c := undo_not h (bk := r1.bk) ⟨_, h.hist.2.2.1.b⟩ (by
      show some (⟨r3.bk, 0, none⟩ : Addr) ≠ _
      intro e
      injection e with e
      injection e with e
      exact H13.out.1 e.symm)
    rw [st11.out.r] at c
    exact c
  have U2 : Hid (Calls Tryz.prog 21 #[.pointer (some ⟨r0, 0, none⟩), .pointer (some ⟨r3.bk, 0, none⟩)] w11.drew fun e w' => e = .returned (.int .i64 0) ∧ ∃ s4, LSt w r0 pb xb yb p x y s4 [r2, r1] [⟨x, v8⟩] w') := by
    have h := st11.out
    have c := undo_any h.ra h.bel.size
    rw [h.r] at c
    refine c.mono ?_
    rintro e w' ⟨rfl, s4, h4, r4, l4, a4, t4⟩
    obtain ⟨q1, q2, q3, q4⟩ := h.tch t4
    refine ⟨rfl, s4, h4, q1, q2, q3, q4, fun q => ?_, r4.trans h.r⟩
    rw [l4, H13.out.2.1, H13.out.2.2]
    by_cases e : q = p
    · rw [if_pos e, if_pos e]
    · rw [if_neg e, if_neg e, h.li, if_neg e]
  clear hg1 hg2 hat ou st11' ok2
  go_upto_region 9 with fail
  refine live9 (rb := r0) (xb := xb) (yb := yb) (g := g) (o := o) (lc := uc) (x := x) (y := y) _ w11 _ rfl rfl rfl rfl rfl hx hy LL.out.1 (st11.out.ldx hx) LL.out.2.1 LL.out.2.2 (st11.out.ldy hy) CL.out ?_
  intro a' w' hw' ha
  subst ha
  subst hw'
  simp only [Act.put, List.setIfInBounds_toArray, List.set_cons_zero, List.set_cons_succ]
  clear LL CL HV H13 st10 st11
  go_wp2_with (first
    | (go_at_call 21; refine U1.out.mono ?_; rintro e w12 ⟨rfl, rfl⟩; clear U1)
    | (go_at_call 21; refine U2.out.mono ?_; rintro e w13 ⟨rfl, s4, st'⟩; have LP := hidMk (st'.ld hp w13 rfl); have CE := hidMk (st'.ent hp (by simp)); clear U2 st')
    | (refine wpList_val rfl (exec_load (t := 68) (v := p.v) rfl rfl LP.out) ?_)
    | (go_at_call 10; refine CE.out.mono ?_; rintro e w14 ⟨u, rfl, ou, st14⟩; obtain ⟨ua, uc2, rfl⟩ := ou.form; have B := hidMk st14.bel; clear ou st14 CE)
    | fail)
  go_ret
  exact ⟨rfl, B.out⟩
theorem live_any (w : World) : Calls Tryz.prog 4 #[] w fun e w' => e = .returned (.bool true) ∧ Below w.heap.size w w' :=
  live_gen w pA pA_ok (idN 1) (idN 2) (idN_ok (by decide)) (idN_ok (by decide)) (vC 5) (vC 8) zVa (vC_ok (by decide)) zVa_ok rfl sum_live (vC_ok (by decide)) (hidMk build_pA) (hidMk build_i1) (hidMk build_i2) (hidMk build_vC) (hidMk build_v0)
end Go.Proofs.YtldlljobofnmmaaGreatDoor
