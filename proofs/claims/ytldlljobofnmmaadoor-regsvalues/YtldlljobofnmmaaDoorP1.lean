import Derived.Test.YtldlljobofnmmaaDoorP0
import Derived.Test.YtldlljobofnmmaaDoorZr
import Derived.Test.YtldlljobofnmmaaDoorRnn0
namespace Go.Proofs.YtldlljobofnmmaaDoor
open Go.RowKit
set_option linter.unusedVariables false
set_option linter.unusedSimpArgs false

theorem mem_take_succ {α : Type} {L : List α} {i : Nat} {x y : α} (h : L[i]? = some x) : y ∈ L.take (i + 1) ↔ y ∈ L.take i ∨ y = x := by
  rw [List.take_add_one, h]
  simp
set_option maxRecDepth 100000 in
set_option maxHeartbeats 4000000 in
/-- Whether an Id stands in a list. -/
theorem saw_any {w : World} {L : List IdK} (ok : ∀ x ∈ L, x.ok) (hn : L.length ≤ 9000000000000) {a : Option Addr} {c : Nat} (ha : RI.At w a L) {y : IdK} (hy : y.ok) :
    Calls Tryd.prog 33 #[.slice a L.length c, y.v] w fun e w' => e = .returned (.bool (decide (y ∈ L))) ∧ Below w.heap.size w w' := by
  obtain ⟨n, hnn⟩ : ∃ n, L.length = n := ⟨_, rfl⟩
  obtain ⟨w1, E1, n1, b1⟩ := box_id w y
  have H1 := hidMk E1
  have HL := hidMk (And.intro (ha.below b1) (And.intro ok (And.intro hnn (And.intro n1 b1))))
  rw [hnn] at hn ⊢
  obtain ⟨xb, hxb⟩ : ∃ xb, w.heap.size = xb := ⟨_, rfl⟩
  have HXB := hidMk hxb
  rw [hxb] at H1
  clear ha ok hnn E1 n1 b1 hxb
  go_enter Tryd.func33, Tryd.ntmps33
  go_wp2_with (first
    | (refine wpList_run rfl (exec_boxE (t := 38) (v := y.v) (u := .pointer (some ⟨xb, 0, none⟩)) (w2 := w1) rfl rfl H1.out) ?_)
    | fail)
  clear H1
  go_loopw [5] (fun v5 wr => ∃ i : Nat, v5 = .int .i64 (i : Int) ∧ i ≤ n ∧ Hid (Below w1.heap.size w1 wr ∧ ¬ y ∈ L.take i)) (fun v5 wr => n - (match v5 with | .int _ i => i.toNat | _ => 0))
  case atStart => exact ⟨0, rfl, Nat.zero_le _, Below.refl _ _, by simp⟩
  case round =>
    obtain ⟨i, rfl, hin, HI⟩ := hrel
    by_cases hi : i < n
    · obtain ⟨ha, ok, hnn, n1, b1⟩ := HL.out
      obtain ⟨x, hxi⟩ : ∃ x, L[i]? = some x := ⟨_, List.getElem?_eq_getElem (by omega)⟩
      have hx : x.ok := ok x (List.mem_of_getElem? hxi)
      obtain ⟨g, o, rfl, lg, hr⟩ : ∃ g o, a = some ⟨g, o, none⟩ ∧ g < w1.heap.size ∧ w1.rangeAt g (o + 33 * i) x.c := by
        rcases ha with h | ⟨g, o, e, h1, h2⟩
        · rw [h] at hxi; cases hxi
        · exact ⟨g, o, e, h1, h2 i x hxi⟩
      have bd : Below w1.heap.size w1 wr.drew := HI.out.1.drew
      have L1 : Hid ((Instr.loadAt 38 (.pointer (some ⟨g, o + 33 * i, none⟩))).run Tryd.prog wr.drew = .ok x.v wr.drew) := RowT.ld RI_is hx (rangeAt_keep hr (bd.block _ lg))
      have L2 : Hid ((Instr.loadAt 38 (.pointer (some ⟨xb, 0, none⟩))).run Tryd.prog wr.drew = .ok y.v wr.drew) := load_id hy ((bd.block xb (by have := (Array.getElem?_eq_some_iff.1 n1).1; rw [HXB.out] at this; exact this)).trans (by rw [← HXB.out]; exact n1))
      have HM := hidMk (And.intro bd (And.intro HI.out.2 (And.intro hxi (And.intro b1 hnn))))
      have h63 : n ≤ 9223372036854775807 := by omega
      clear hr lg ha ok hnn n1 b1 hxi bd HI
      go_upto_region 4 with fail
      refine saw4 (g := g) (o := o) (n := n) (c := c) (i := i) (xb := xb) (x := x) (y := y) _ wr _ rfl rfl rfl rfl hx hy hi h63 (fun W e => by rw [e]; exact L1.out) (fun W e => by rw [e]; exact L2.out) ?_
      intro a' w2 hf ha
      subst ha
      subst hf
      simp only [Act.put, List.setIfInBounds_toArray, List.set_cons_zero, List.set_cons_succ]
      clear L1 L2
      by_cases hxy : x = y
      · have HXY := hidMk hxy
        rw [show decide (x = y) = true from decide_eq_true hxy]
        clear hxy
        go_wp2
        go_ret
        obtain ⟨bd, h2, hxi, b1, hnn⟩ := HM.out
        refine ⟨?_, b1.trans (bd.mono b1.size)⟩
        rw [decide_eq_true (by rw [← HXY.out]; exact List.mem_of_getElem? hxi)]
        rfl
      · have HXY := hidMk hxy
        rw [show decide (x = y) = false from decide_eq_false hxy]
        clear hxy
        go_wp2
        rw [show ((i : Int) + 1) = ((i + 1 : Nat) : Int) by omega]
        refine ⟨⟨i + 1, rfl, hi, HM.out.1, ?_⟩, ?_⟩
        · rw [mem_take_succ HM.out.2.2.1]
          rintro (h | h)
          · exact HM.out.2.1 h
          · exact HXY.out h.symm
        · show n - ((i + 1 : Nat) : Int).toNat < n - (i : Int).toNat
          omega
    · obtain rfl : i = n := by omega
      go_wp2
      go_ret
      obtain ⟨ha, ok, hnn, n1, b1⟩ := HL.out
      refine ⟨?_, b1.trans (HI.out.1.mono b1.size)⟩
      have := HI.out.2
      rw [List.take_of_length_le (by omega)] at this
      rw [decide_eq_false this]
      rfl
/-- A slot: a place, and its list. -/
structure SlV where
  a : Option Addr
  n : Nat
  c : Nat
def SlV.v (x : SlV) : Value := .slice x.a x.n x.c
def RT : RowT (PlK × SlV) := ⟨fun x => x.1.c ++ [x.2.v], fun x => x.1.ok, 68, 120, 122, 85, (zPl, ⟨none, 0, 0⟩)⟩
theorem RT_is : RT.Is := ⟨zPl_ok, fun x h => by show (x.1.c ++ [x.2.v]).length = 68; rw [List.length_append, PlK.len h]; rfl, fun x v hv => by
  rcases List.mem_append.1 hv with h | h
  · exact x.1.one v h
  · rw [List.mem_singleton.1 h]; rfl, Tryd.underlying85, by kernel_rfl, ⟨_, Tryd.underlying122, rfl⟩, by decide, by decide⟩
theorem rt_pl {w : World} {b o : Nat} {x : PlK × SlV} (hx : x.1.ok) (h : w.rangeAt b o (RT.c x)) : (Instr.loadAt 52 (.pointer (some ⟨b, o + 0, none⟩))).run Tryd.prog w = .ok x.1.v w :=
  ld_pl hx (fun j v hv => h j v (by
    show (x.1.c ++ [x.2.v])[j]? = _
    rw [List.getElem?_append_left (List.getElem?_eq_some_iff.1 hv).1]
    exact hv))
theorem rt_cell {w : World} {b o : Nat} {x : PlK × SlV} (hx : x.1.ok) (h : w.rangeAt b o (RT.c x)) : w.cell? ⟨b, o + 67, none⟩ = some x.2.v := h 67 _ (by
  show (x.1.c ++ [x.2.v])[67]? = _
  rw [List.getElem?_append_right (by rw [PlK.len hx]; omega), PlK.len hx]
  rfl)
theorem rt_en {w : World} {b o : Nat} {x : PlK × SlV} (hx : x.1.ok) (h : w.rangeAt b o (RT.c x)) : (Instr.loadAt 60 (.pointer (some ⟨b, o + 67, none⟩))).run Tryd.prog w = .ok x.2.v w := by
  have hc := rt_cell hx h
  unfold SlV.v at *
  go_simp
/-- The document's Regs: its slots and its past. -/
structure RfS (w : World) (d : Nat) (a : Option Addr) (c : Nat) (S : List (PlK × SlV)) (pv : SlV) : Prop where
  cell : w.heap[d]? = some (.cells #[.slice a S.length c, pv.v] 88 (0, 0))
  sl : RT.At w a S
  ok : ∀ x ∈ S, x.1.ok
theorem RfS.below {w w' : World} {d : Nat} {a : Option Addr} {c : Nat} {S : List (PlK × SlV)} {pv : SlV} (h : RfS w d a c S pv) (b : Below w.heap.size w w') : RfS w' d a c S pv := ⟨(b.block _ (Array.getElem?_eq_some_iff.1 h.cell).1).trans h.cell, h.sl.below b, h.ok⟩
theorem RfS.lds {w : World} {d : Nat} {a : Option Addr} {c : Nat} {S : List (PlK × SlV)} {pv : SlV} (h : RfS w d a c S pv) : (Instr.loadAt 85 (.pointer (some ⟨d, 0 + 0, none⟩))).run Tryd.prog w = .ok (.slice a S.length c) w := by
  have hc : w.cell? ⟨d, 0, none⟩ = some (.slice a S.length c) := (cell_of_row w d 0 _ _ _ h.cell).trans rfl
  go_simp
/-- Where a place stands. -/
def fndI (S : List (PlK × SlV)) (p : PlK) : Int := match S.findIdx? (fun x => decide (x.1 = p)) with | some i => (i : Int) | none => -1
theorem fnd_none {S : List (PlK × SlV)} {p : PlK} (h : ∀ x ∈ S, x.1 ≠ p) : fndI S p = -1 := by
  unfold fndI
  rw [List.findIdx?_eq_none_iff.2 (fun x hx => by simpa using h x hx)]
theorem fnd_at {S : List (PlK × SlV)} {p : PlK} {i : Nat} {x : PlK × SlV} (hx : S[i]? = some x) (he : x.1 = p) (h : ∀ y ∈ S.take i, y.1 ≠ p) : fndI S p = i := by
  have hi := (List.getElem?_eq_some_iff.1 hx).1
  have : S.findIdx? (fun x => decide (x.1 = p)) = some i := by
    rw [List.findIdx?_eq_some_iff_getElem]
    refine ⟨hi, by rw [(List.getElem?_eq_some_iff.1 hx).2]; simpa using he, fun j hj => ?_⟩
    have := h S[j] (List.mem_take_iff_getElem.2 ⟨j, by omega, rfl⟩)
    simpa using this
  unfold fndI
  rw [this]
set_option maxRecDepth 100000 in
set_option maxHeartbeats 4000000 in
/-- find. -/
theorem find_any {w : World} {d : Nat} {a : Option Addr} {c : Nat} {S : List (PlK × SlV)} {pv : SlV} (h : RfS w d a c S pv) (hn : S.length ≤ 9000000000000) {p : PlK} (hp : p.ok) :
    Calls Tryd.prog 69 #[.pointer (some ⟨d, 0, none⟩), p.v] w fun e w' => e = .returned (.int .i64 (fndI S p)) ∧ Below w.heap.size w w' := by
  obtain ⟨n, hnn⟩ : ∃ n, S.length = n := ⟨_, rfl⟩
  obtain ⟨w1, E1, n1, b1⟩ := box_pl w p
  have H1 := hidMk E1
  have HL := hidMk (And.intro (h.below b1) (And.intro hnn (And.intro n1 b1)))
  rw [hnn] at hn
  obtain ⟨xb, hxb⟩ : ∃ xb, w.heap.size = xb := ⟨_, rfl⟩
  have HXB := hidMk hxb
  rw [hxb] at H1
  clear h hnn E1 n1 b1 hxb
  go_enter Tryd.func69, Tryd.ntmps69
  go_wp2_with (first
    | (refine wpList_run rfl (exec_boxE (t := 52) (v := p.v) (u := .pointer (some ⟨xb, 0, none⟩)) (w2 := w1) rfl rfl H1.out) ?_)
    | fail)
  clear H1
  go_loopw [5] (fun v5 wr => ∃ i : Nat, v5 = .int .i64 (i : Int) ∧ i ≤ n ∧ Hid (Below w1.heap.size w1 wr ∧ ∀ y ∈ S.take i, y.1 ≠ p)) (fun v5 wr => n - (match v5 with | .int _ i => i.toNat | _ => 0))
  case atStart => exact ⟨0, rfl, Nat.zero_le _, Below.refl _ _, by simp⟩
  case round =>
    obtain ⟨i, rfl, hin, HI⟩ := hrel
    have c0 : wr.cell? ⟨d, 0, none⟩ = some (.slice a n c) := by
      have hh := HL.out.1.below HI.out.1
      have := (cell_of_row wr d 0 _ _ _ hh.cell)
      rw [HL.out.2.1] at this
      exact this.trans rfl
    by_cases hi : i < n
    · obtain ⟨hs, hnn, n1, b1⟩ := HL.out
      obtain ⟨x, hxi⟩ : ∃ x, S[i]? = some x := ⟨_, List.getElem?_eq_getElem (by omega)⟩
      have hx : x.1.ok := hs.ok x (List.mem_of_getElem? hxi)
      obtain ⟨g, o, rfl, lg, hr⟩ : ∃ g o, a = some ⟨g, o, none⟩ ∧ g < w1.heap.size ∧ w1.rangeAt g (o + 68 * i) (RT.c x) := by
        rcases hs.sl with h | ⟨g, o, e, h1, h2⟩
        · rw [h] at hxi; cases hxi
        · exact ⟨g, o, e, h1, h2 i x hxi⟩
      have bd : Below w1.heap.size w1 wr.drew := HI.out.1.drew
      have L1 : Hid ((Instr.loadAt 85 (.pointer (some ⟨d, 0 + 0, none⟩))).run Tryd.prog wr.drew = .ok (.slice (some ⟨g, o, none⟩) n c) wr.drew) := by
        have := (hs.below bd).lds
        rw [hnn] at this
        exact this
      have L2 : Hid ((Instr.loadAt 52 (.pointer (some ⟨g, o + 68 * i + 0, none⟩))).run Tryd.prog wr.drew = .ok x.1.v wr.drew) := rt_pl hx (rangeAt_keep hr (bd.block _ lg))
      have L3 : Hid ((Instr.loadAt 52 (.pointer (some ⟨xb, 0, none⟩))).run Tryd.prog wr.drew = .ok p.v wr.drew) := ld_pl hp (rng_cells ((bd.block xb (by have := (Array.getElem?_eq_some_iff.1 n1).1; rw [HXB.out] at this; exact this)).trans (by rw [← HXB.out]; exact n1)))
      have HM := hidMk (And.intro bd (And.intro HI.out.2 (And.intro hxi (And.intro b1 hnn))))
      have h63 : n ≤ 9223372036854775807 := by omega
      clear hr lg hs hnn n1 b1 hxi bd HI
      go_upto_region 4 with fail
      clear c0
      refine fnd4 (d := d) (g := g) (o := o) (n := n) (c := c) (i := i) (pb := xb) (x := x.1) (p := p) _ wr _ rfl rfl rfl rfl hx hp hi h63 (fun W e => by rw [e]; exact L1.out) (fun W e => by rw [e]; exact L2.out) (fun W e => by rw [e]; exact L3.out) ?_
      intro a' w2 hf ha
      subst ha
      subst hf
      simp only [Act.put, List.setIfInBounds_toArray, List.set_cons_zero, List.set_cons_succ]
      clear L1 L2 L3
      by_cases hxy : x.1 = p
      · have HXY := hidMk hxy
        rw [show decide (x.1 = p) = true from decide_eq_true hxy]
        clear hxy
        go_wp2
        go_ret
        obtain ⟨bd, h2, hxi, b1, hnn⟩ := HM.out
        refine ⟨?_, b1.trans (bd.mono b1.size)⟩
        rw [fnd_at hxi HXY.out h2]
        rfl
      · have HXY := hidMk hxy
        rw [show decide (x.1 = p) = false from decide_eq_false hxy]
        clear hxy
        go_wp2
        rw [show ((i : Int) + 1) = ((i + 1 : Nat) : Int) by omega]
        refine ⟨⟨i + 1, rfl, hi, HM.out.1, fun y hy => ?_⟩, ?_⟩
        · rw [mem_take_succ HM.out.2.2.1] at hy
          rcases hy with h | h
          · exact HM.out.2.1 y h
          · rw [h]; exact HXY.out
        · show n - ((i + 1 : Nat) : Int).toNat < n - (i : Int).toNat
          omega
    · obtain rfl : i = n := by omega
      go_wp2
      go_ret
      obtain ⟨hs, hnn, n1, b1⟩ := HL.out
      refine ⟨?_, b1.trans (HI.out.1.mono b1.size)⟩
      have h2 := HI.out.2
      rw [List.take_of_length_le (by omega)] at h2
      rw [fnd_none h2]
      rfl
end Go.Proofs.YtldlljobofnmmaaDoor

namespace Go.Proofs.YtldlljobofnmmaaDoor
open Go.RowKit
set_option linter.unusedVariables false
set_option linter.unusedSimpArgs false

theorem szSay : (Tryd.prog.info? 74).map (·.size) = some 8 := by kernel_rfl
theorem SyR.one {W : World} {o : SyR} (h : o.ok W) : ∀ v ∈ o.c, v.oneCell' = true := by
  intro v hv
  obtain ⟨a, cap, e, _⟩ := h.seen
  simp only [SyR.c, List.mem_cons, List.mem_append, List.not_mem_nil, or_false] at hv
  rcases hv with rfl | rfl | h | rfl | rfl
  · rfl
  · rfl
  · exact o.v.one v h
  · rfl
  · rw [e]; rfl
theorem ld_say {W : World} {b o : Nat} {x : SyR} (h : W.rangeAt b o x.c) : (Instr.loadAt 74 (.pointer (some ⟨b, o, none⟩))).run Tryd.prog W = .ok x.a W :=
  run_loadAt_mid (P := Tryd.prog) W b o 74 x.c _ h Tryd.underlying74 rfl (by rw [SyR.len8]; exact szSay)
theorem say_kind {W : World} {b o : Nat} {x : SyR} (h : W.rangeAt b o x.c) : (Instr.loadAt 3 (.pointer (some ⟨b, o + 0, none⟩))).run Tryd.prog W = .ok (.int .i64 x.kind) W := by
  have hc : W.cell? ⟨b, o, none⟩ = some (.int .i64 x.kind) := h 0 _ rfl
  go_simp
theorem say_pl {W : World} {b o : Nat} {x : SyR} (h : W.rangeAt b o x.c) : (Instr.loadAt 3 (.pointer (some ⟨b, o + 1, none⟩))).run Tryd.prog W = .ok (.int .i64 x.pl) W := by
  have hc : W.cell? ⟨b, o + 1, none⟩ = some (.int .i64 x.pl) := h 1 _ rfl
  go_simp
theorem say_va {W : World} {b o : Nat} {x : SyR} (h : W.rangeAt b o x.c) : (Instr.loadAt 42 (.pointer (some ⟨b, o + 2, none⟩))).run Tryd.prog W = .ok x.v.v W := ld_va (fun j v hv => by
    rw [Nat.add_assoc]
    exact h (2 + j) v (by
      rw [SyR.c, show 2 + j = j + 1 + 1 by omega, List.getElem?_cons_succ, List.getElem?_cons_succ, List.getElem?_append_left (List.getElem?_eq_some_iff.1 hv).1]
      exact hv))
theorem say_n {W : World} {b o : Nat} {x : SyR} (h : W.rangeAt b o x.c) : (Instr.loadAt 2 (.pointer (some ⟨b, o + 6, none⟩))).run Tryd.prog W = .ok (.int .i64 x.n) W := by
  have hc : W.cell? ⟨b, o + 6, none⟩ = some (.int .i64 x.n) := h 6 _ (by
    rw [SyR.c, show 6 = 4 + 1 + 1 by rfl, List.getElem?_cons_succ, List.getElem?_cons_succ, List.getElem?_append_right (by rw [VaV.len]; omega), VaV.len]
    rfl)
  go_simp
theorem say_seen {x : SyR} : x.c[7]? = some x.seen := by
    rw [SyR.c, show 7 = 5 + 1 + 1 by rfl, List.getElem?_cons_succ, List.getElem?_cons_succ, List.getElem?_append_right (by rw [VaV.len]; omega), VaV.len]
    rfl
theorem box_say (w : World) (x : SyR) : ∃ w1, (Instr.box 74 x.a).run Tryd.prog w = .ok (.pointer (some ⟨w.heap.size, 0, none⟩)) w1 ∧ w1.heap[w.heap.size]? = some (.cells x.c.toArray 74 (0, 0)) ∧ Below w.heap.size w w1 := ⟨_, by rw [run_box]; rfl, heap_alloc_new _ _, (Below.refl _ _).alloc (Nat.le_refl _) _⟩
def NotIn (w1 wr : World) (k : Int) (L : List Int) (i : Nat) : Prop := wr = w1 ∧ ¬ k ∈ L.take i
set_option maxRecDepth 100000 in
set_option maxHeartbeats 2000000 in
/-- Whether a call had seen another one. -/
theorem knows_any {w : World} {x : SyR} (hx : x.ok w) {k : Nat} (hk : k ≤ 9000000000000) :
    Calls Tryd.prog 28 #[x.a, .int .i64 (k : Int)] w fun e w' => e = .returned (.bool (decide ((k : Int) ∈ x.sl))) ∧ Below w.heap.size w w' := by
  obtain ⟨w1, E1, n1, b1⟩ := box_say w x
  obtain ⟨a, cap, es, hr⟩ := (hx.below b1).seen
  have hn := hx.len
  obtain ⟨n, hnn⟩ : ∃ n, x.sl.length = n := ⟨_, rfl⟩
  have c7 : w1.cell? ⟨w.heap.size, 7, none⟩ = some (.slice a n cap) := by
    rw [cell_of_row _ _ 7 _ _ _ n1, ← hnn, ← es]
    have := say_seen (x := x)
    simpa using this
  have H1 := hidMk E1
  have HL := hidMk (And.intro hr (And.intro hnn b1))
  rw [hnn] at hn
  obtain ⟨xb, hxb⟩ : ∃ xb, w.heap.size = xb := ⟨_, rfl⟩
  have HXB := hidMk hxb
  rw [hxb] at H1 c7
  clear hx E1 n1 b1 hr es hxb hnn
  obtain ⟨xa, hxa⟩ : ∃ xa, x.a = xa := ⟨_, rfl⟩
  rw [hxa] at H1 ⊢
  clear hxa
  go_enter Tryd.func28, Tryd.ntmps28
  go_wp2_with (first
    | (refine wpList_run rfl (exec_boxE (t := 74) (v := xa) (u := .pointer (some ⟨xb, 0, none⟩)) (w2 := w1) rfl rfl H1.out) ?_)
    | fail)
  clear H1
  go_loopw [5] (fun v5 wr => ∃ i : Nat, v5 = .int .i64 (i : Int) ∧ i ≤ n ∧ Hid (NotIn w1 wr (k : Int) x.sl i)) (fun v5 wr => n - (match v5 with | .int _ i => i.toNat | _ => 0))
  case atStart => exact ⟨0, rfl, Nat.zero_le _, rfl, by simp⟩
  case round =>
    obtain ⟨i, rfl, hin, HI0⟩ := hrel
    obtain rfl : w1 = wr := HI0.out.1.symm
    have HI := hidMk HI0.out.2
    clear HI0
    by_cases hi : i < n
    · obtain ⟨hr, hnn, b1⟩ := HL.out
      obtain ⟨z, hzi⟩ : ∃ z, x.sl[i]? = some z := ⟨_, List.getElem?_eq_getElem (by omega)⟩
      obtain ⟨g, o, rfl, lg, hz⟩ : ∃ g o, a = some ⟨g, o, none⟩ ∧ g < w1.heap.size ∧ w1.rangeAt g (o + i * 1) (inC z) := by
        rcases hr with h | ⟨g, o, e, h1, h2⟩
        · rw [h] at hzi; cases hzi
        · exact ⟨g, o, e, h1, h2 i z hzi⟩
      have ci : w1.cell? ⟨g, o + i, none⟩ = some (.int .i64 z) := by
        have := hz 0 _ rfl
        rw [Nat.mul_one] at this
        exact this
      have HM := hidMk (And.intro hzi (And.intro b1 hnn))
      clear hr hnn b1 hzi hz lg
      by_cases hzk : z = (k : Int)
      · have HZ := hidMk hzk
        have hq : (z == (k : Int)) = true := by simpa using hzk
        clear hzk
        go_wp2
        go_ret
        obtain ⟨hzi, b1, hnn⟩ := HM.out
        refine ⟨?_, b1⟩
        rw [decide_eq_true (by rw [← HZ.out]; exact List.mem_of_getElem? hzi)]
        rfl
      · have HZ := hidMk hzk
        have hq : (z == (k : Int)) = false := by simpa using hzk
        clear hzk
        go_wp2
        rw [show ((i : Int) + 1) = ((i + 1 : Nat) : Int) by omega]
        refine ⟨⟨i + 1, rfl, hi, rfl, ?_⟩, ?_⟩
        · rw [mem_take_succ HM.out.1]
          rintro (h | h)
          · exact HI.out h
          · exact HZ.out h.symm
        · show n - ((i + 1 : Nat) : Int).toNat < n - (i : Int).toNat
          omega
    · obtain rfl : i = n := by omega
      go_wp2
      go_ret
      obtain ⟨hr, hnn, b1⟩ := HL.out
      refine ⟨?_, b1⟩
      have := HI.out
      rw [List.take_of_length_le (by omega)] at this
      rw [decide_eq_false this]
      rfl
set_option maxRecDepth 100000 in
set_option maxHeartbeats 2000000 in
/-- Whether a call is a Put. -/
theorem puts_any (w : World) (Ps : List PlK) (x : SyR) : Calls Tryd.prog 26 #[x.a] w fun e w' => e = .returned (.bool (x.s Ps).puts) ∧ Below w.heap.size w w' := by
  obtain ⟨w1, E1, n1, b1⟩ := box_say w x
  have c0 : w1.cell? ⟨w.heap.size, 0, none⟩ = some (.int .i64 x.kind) := by
    rw [cell_of_row _ _ 0 _ _ _ n1]; rfl
  have e2 : (x.s Ps).puts = (!(x.kind == 1) && !(x.kind == 2)) := rfl
  have H1 := hidMk E1
  have HB := hidMk b1
  rw [e2]
  generalize x.kind = z at *
  have hne1 : (z != 1) = !(z == 1) := rfl
  have hne2 : (z != 2) = !(z == 2) := rfl
  obtain ⟨xa, hxa⟩ : ∃ xa, x.a = xa := ⟨_, rfl⟩
  rw [hxa] at H1 ⊢
  clear E1 n1 b1 hxa e2
  generalize (z == 1) = q1 at *
  generalize (z == 2) = q2 at *
  cases q1 <;> cases q2
  all_goals
    simp only [Bool.not_true, Bool.not_false] at hne1 hne2
    go_enter Tryd.func26, Tryd.ntmps26
    go_wp2_with (first
      | (refine wpList_run rfl (exec_boxE (t := 74) (v := xa) (u := .pointer (some ⟨w.heap.size, 0, none⟩)) (w2 := w1) rfl rfl H1.out) ?_)
      | fail)
    go_ret
    exact ⟨rfl, HB.out⟩
end Go.Proofs.YtldlljobofnmmaaDoor

namespace Go.Proofs.YtldlljobofnmmaaDoor
open Go.RowKit
set_option linter.unusedVariables false
set_option linter.unusedSimpArgs false

theorem nmI_ok {i : Nat} (h : i ≤ 9000000000000) : (nmI i).ok := ⟨by simp [nmI], by simp only [nmI]; omega, by simp only [nmI]; omega⟩
theorem nmI_v (i : Nat) : (nmI i).v = .agg #[.int .u8 ((i : Int) % 256), .int .u8 ((i : Int) / 256 % 256), .int .u8 ((i : Int) / 65536 % 256), .int .u8 0, .int .u8 0, .int .u8 0, .int .u8 0, .int .u8 0, .int .u8 0, .int .u8 0, .int .u8 0, .int .u8 0, .int .u8 0, .int .u8 0, .int .u8 0, .int .u8 0, .int .u8 0, .int .u8 0, .int .u8 0, .int .u8 0, .int .u8 0, .int .u8 0, .int .u8 0, .int .u8 0, .int .u8 0, .int .u8 0, .int .u8 0, .int .u8 0, .int .u8 0, .int .u8 0, .int .u8 0, .int .u8 0, .int .i64 ((i : Int) + 1)] := by
  have h : ∀ k : Nat, ((UInt8.ofNat k).toNat : Int) = (k : Int) % 256 := fun k => by
    rw [UInt8.toNat_ofNat']
    omega
  have e1 : ((i / 256 : Nat) : Int) = (i : Int) / 256 := by omega
  have e2 : ((i / 65536 : Nat) : Int) = (i : Int) / 65536 := by omega
  unfold IdK.v IdK.c
  simp only [nmI, hcs, bs, List.map_cons, List.map_replicate, h, e1, e2]
  rfl
set_option maxRecDepth 100000 in
set_option maxHeartbeats 2000000 in
/-- The Id of the call of a number. -/
theorem name_any (w : World) {i : Nat} (h : i ≤ 9000000000000) : Calls Tryd.prog 27 #[.int .i64 (i : Int)] w fun e w' => e = .returned (nmI i).v ∧ Below w.heap.size w w' := by
  obtain ⟨w1, w2, E1, E2, n2, b2⟩ := id_newR w (nmI_ok h)
  rw [nmI_v] at E2
  have H1 := hidMk E1
  have H2 := hidMk E2
  have HF := hidMk (And.intro n2 b2)
  have HL : Hid ((Tryd.prog.info? 38).map (·.size) = some (nmI i).c.toArray.size) := by
    show _ = _
    rw [List.size_toArray, IdK.len (nmI_ok h)]
    exact szId
  clear E1 E2 n2 b2
  go_enter Tryd.func27, Tryd.ntmps27
  go_wp2_with (first
    | (refine wpList_run rfl (exec_alloc (w2 := w1) rfl H1.out) ?_)
    | (refine wpList_skip rfl rfl (exec_store (w2 := w2) rfl rfl rfl H2.out) ?_)
    | fail)
  refine bodyPost_ret (results_cell_row Tryd.results27 _ _ w.heap.size _ _ _ _ rfl HF.out.1 Tryd.underlying38 rfl HL.out) rfl ?_
  exact ⟨rfl, HF.out.2⟩
set_option maxRecDepth 100000 in
set_option maxHeartbeats 2000000 in
/-- Whether a value is a right counter. -/
theorem counter_any {x : VaV} (hx : x.ok) (w : World) : Calls Tryd.prog 29 #[x.v] w fun e w' => e = .returned (.bool (decide (x.k = 7 ∧ rightC x = true))) ∧ Below w.heap.size w w' := by
  obtain ⟨k, n, f, t⟩ := x
  have hf := hx.ff
  simp only at hf
  clear hx
  have hb : Below w.heap.size w (w.alloc (.cells #[.int .u8 k, .int .i64 n, .float .f64 f, .string t] 42)) := (Below.refl _ _).alloc (Nat.le_refl _) _
  have HB := hidMk hb
  clear hb
  show Calls Tryd.prog 29 #[.agg #[.int .u8 k, .int .i64 n, .float .f64 f, .string t]] w _
  unfold rightC
  by_cases hk : k = 7
  · subst hk
    generalize ht : (t.toList == ([] : List UInt8)) = q
    have HT := hidMk ht
    cases q
    · go_enter Tryd.func29, Tryd.ntmps29
      go_wp2
      go_ret
      exact ⟨by simp, HB.out⟩
    · by_cases hz : (FloatKind.f64.format.order f 0 == some .eq) = true
      · rcases f_zero hf hz with rfl | rfl
        · have hq : ∀ W, (binOp .quo 40 (.float .f64 4607182418800017408) (.float .f64 0)).run Tryd.prog W = .ok (.float .f64 9218868437227405312) W := fun W => run_float_arith W .quo 40 .f64 _ _ _ (by decide +kernel)
          have z3 : (FloatKind.f64.format.order 9218868437227405312 0 == some .gt) = true := by decide +kernel
          clear hf
          go_enter Tryd.func29, Tryd.ntmps29
          go_wp2
          go_ret
          exact ⟨by simp, HB.out⟩
        · have hq : ∀ W, (binOp .quo 40 (.float .f64 4607182418800017408) (.float .f64 9223372036854775808)).run Tryd.prog W = .ok (.float .f64 18442240474082181120) W := fun W => run_float_arith W .quo 40 .f64 _ _ _ (by decide +kernel)
          have z3 : (FloatKind.f64.format.order 18442240474082181120 0 == some .gt) = false := by decide +kernel
          clear hf
          go_enter Tryd.func29, Tryd.ntmps29
          go_wp2
          go_ret
          exact ⟨by simp, HB.out⟩
      · have hz0 : (FloatKind.f64.format.order f 0 == some .eq) = false := by simpa using hz
        have hf0 : Hid (f ≠ 0) := fun e => by
          subst e
          exact hz (by decide +kernel)
        clear hz hf
        go_enter Tryd.func29, Tryd.ntmps29
        go_wp2
        go_ret
        refine ⟨?_, HB.out⟩
        have : (f == 0) = false := by simpa using hf0.out
        rw [this]
        simp
  · have hk0 : (k == 7) = false := by simpa using hk
    have HK := hidMk hk
    clear hk hf
    go_enter Tryd.func29, Tryd.ntmps29
    go_wp2
    go_ret
    refine ⟨?_, HB.out⟩
    rw [decide_eq_false (fun h => HK.out h.1)]
    rfl
end Go.Proofs.YtldlljobofnmmaaDoor

namespace Go.Proofs.YtldlljobofnmmaaDoor
open Go.RowKit
set_option linter.unusedVariables false
set_option linter.unusedSimpArgs false

def enP (q : IdK × VaV) : EnV := ⟨q.1, q.2⟩
def idsK (kn : Nat → Bool) (k : Nat) : List IdK := ((List.range k).filter kn).map nmI
theorem idsK_len (kn : Nat → Bool) (k : Nat) : (idsK kn k).length ≤ k := by
  have := List.length_filter_le kn (List.range k)
  simpa [idsK] using this
theorem idsK_succ (kn : Nat → Bool) (k : Nat) : idsK kn (k + 1) = if kn k = true then idsK kn k ++ [nmI k] else idsK kn k := by
  unfold idsK
  rw [List.range_succ, List.filter_append, List.map_append]
  by_cases h : kn k = true
  · rw [if_pos h, List.filter_cons_of_pos h]; simp
  · rw [if_neg h, List.filter_cons_of_neg h]; simp
theorem idsK_ok (kn : Nat → Bool) {k : Nat} (h : k ≤ 9000000000000) : ∀ x ∈ idsK kn k, x.ok := by
  intro x hx
  obtain ⟨i, hi, rfl⟩ := List.mem_map.1 hx
  have := List.mem_range.1 (List.mem_filter.1 hi).1
  exact nmI_ok (by omega)
/-- A box of a list of Ids, and the list. -/
structure IdB (W : World) (ib : Nat) (iv : Value) (I : List IdK) (W' : World) : Prop where
  b : W'.heap[ib]? = some (.cells #[iv] 43 (0, 0))
  o : RI.Own W' W.heap.size iv I
  bel : Below W.heap.size W W'
  sl : ∃ s : SlV, iv = s.v
theorem idl_store {W : World} {ib : Nat} {iv : Value} {s : SlV} (h : W.heap[ib]? = some (.cells #[iv] 43 (0, 0))) : ∃ W', (Instr.storeAt 43 (.pointer (some ⟨ib, 0, none⟩)) s.v).run Tryd.prog W = .ok () W' ∧ W'.heap[ib]? = some (.cells #[s.v] 43 (0, 0)) ∧ Tch (fun j => j = ib) W W' := by
  have c0 : W.cell? ⟨ib, 0, none⟩ = some iv := (cell_of_row W ib 0 _ _ _ h).trans rfl
  have f0 := frozen_of_row W ib 0 _ _ h
  refine ⟨W.setCell ⟨ib, 0, none⟩ (.slice s.a s.n s.c), ?_, ?_, ⟨rfl, rfl, rfl, by simp [World.setCell], fun j _ hj => Go.heap_setCell_other _ _ _ _ hj⟩⟩
  · unfold SlV.v
    go_simp
  · exact Go.heap_setCell_same W ib 0 _ 43 _ h
theorem idl_load {W : World} {ib : Nat} {s : SlV} (h : W.heap[ib]? = some (.cells #[s.v] 43 (0, 0))) : (Instr.loadAt 43 (.pointer (some ⟨ib, 0, none⟩))).run Tryd.prog W = .ok s.v W := by
  have c0 : W.cell? ⟨ib, 0, none⟩ = some (.slice s.a s.n s.c) := (cell_of_row W ib 0 _ _ _ h).trans rfl
  unfold SlV.v
  go_simp
theorem idl_new (W : World) : ∃ W', (Instr.alloc 43 true (.tuple #[])).run Tryd.prog W = .ok (.pointer (some ⟨W.heap.size, 0, none⟩)) W' ∧ IdB W W.heap.size (.slice none 0 0) [] W' :=
  ⟨W.alloc (.cells #[.slice none 0 0] 43), by kernel_rfl, heap_alloc_new _ _, RowT.own_nil RI _ _, (Below.refl _ _).alloc (Nat.le_refl _) _, ⟨none, 0, 0⟩, rfl⟩
theorem IdB.below {W W1 W2 : World} {ib : Nat} {iv : Value} {I : List IdK} (h : IdB W ib iv I W1) (b : Below W1.heap.size W1 W2) : IdB W ib iv I W2 := ⟨(b.block _ (Array.getElem?_eq_some_iff.1 h.b).1).trans h.b, h.o.below b, h.bel.trans (b.mono h.bel.size), h.sl⟩
/-- An Id more. -/
theorem IdB.push {W W1 : World} {ib : Nat} {iv : Value} {I : List IdK} (h : IdB W ib iv I W1) (hib : W.heap.size ≤ ib) {y : IdK} (hy : y.ok) (hn : I.length + 1 ≤ 5000000000000) :
    ∃ sv w1 u w2 w3, (Instr.buildSlice 43 1 #[(0, y.v)]).run Tryd.prog W1 = .ok sv w1 ∧ w1.heap[ib]? = some (.cells #[iv] 43 (0, 0)) ∧ (Builtin.append_ #[43, 43] 43 #[iv, sv]).run Tryd.prog w1 = .ok u w2 ∧ w2.heap[ib]? = some (.cells #[iv] 43 (0, 0)) ∧ (Instr.storeAt 43 (.pointer (some ⟨ib, 0, none⟩)) u).run Tryd.prog w2 = .ok () w3 ∧ ∃ iv', IdB W ib iv' (I ++ [y]) w3 := by
  have hb := h.bel.size
  obtain ⟨sv, w1, u, w2, E1, E2, o2, b1, z1, g2, q2⟩ := RowT.run_push RI_is W1 W.heap.size iv I y h.o hy (by unfold maxLen; omega) (by show _ * 40 ≤ _; omega) hb
  obtain ⟨oa, oc, eo⟩ := o2.form
  have hl := (Array.getElem?_eq_some_iff.1 h.b).1
  have n1 : w1.heap[ib]? = _ := (b1.block ib hl).trans h.b
  have hne : iv.ownBlock ≠ some ib := fun e => by
    obtain ⟨_, c, hc⟩ := h.o.cells e
    have := h.b
    rw [hc] at this
    injection this with this
    injection this with _ h2 _
    revert h2
    decide
  have n2 : w2.heap[ib]? = _ := (g2.block ib (Array.getElem?_eq_some_iff.1 n1).1 (fun e => hne e.symm)).trans n1
  obtain ⟨w3, E3, n3, t3⟩ := idl_store (s := ⟨oa, _, oc⟩) n2
  have hu : u.ownBlock ≠ some ib := fun e => by
    obtain ⟨_, c, hc⟩ := o2.cells e
    rw [hc] at n2
    injection n2 with n2
    injection n2 with _ h2 _
    revert h2
    decide
  have bel1 : Below W.heap.size W w1 := h.bel.trans (b1.mono hb)
  have bel2 : Below W.heap.size W w2 := bel1.grown g2 (Nat.le_trans hb b1.size) (fun k hk => (h.o.cells hk).1)
  refine ⟨sv, w1, u, w2, w3, E1, n1, E2, n2, by rw [eo]; exact E3, _, n3, ?_, bel2.trans (t3.below (Nat.le_trans hb (Nat.le_trans b1.size g2.size)) (fun j e => by rw [e]; exact hib)), ⟨oa, _, oc⟩, rfl⟩
  have : RI.Own w3 W.heap.size u (I ++ [y]) := o2.keep (fun k hk => t3.block k (o2.lt hk) (fun e => hu (by rw [← e]; exact hk)))
  rw [eo] at this
  exact this
set_option maxRecDepth 100000 in
set_option maxHeartbeats 2000000 in
/-- do's closure. -/
theorem tells_do {W : World} {ib : Nat} {s : SlV} {I : List IdK} (hb : W.heap[ib]? = some (.cells #[s.v] 43 (0, 0))) {base : Nat} (ho : RI.Own W base s.v I) (ok : ∀ x ∈ I, x.ok) (hn : I.length ≤ 9000000000000) : Tells W 63 #[.pointer (some ⟨ib, 0, none⟩)] (fun k => decide (k ∈ I)) := by
  refine ⟨enters_of Tryd.func63 (by kernel_rfl) rfl, fun w bW k hk => ?_⟩
  obtain ⟨w1, E1, n1, b1⟩ := box_id w k
  have h2 := (bW.block ib (Array.getElem?_eq_some_iff.1 hb).1).trans hb
  have hb1 := (b1.block ib (Array.getElem?_eq_some_iff.1 h2).1).trans h2
  have o1 := (ho.below bW).below b1
  obtain ⟨a, c, es, hat, _⟩ := o1.open RI_is ok
  have CS := hidMk (saw_any ok hn (c := c) hat hk)
  rw [← es] at CS
  have H1 := hidMk E1
  have L1 := hidMk (idl_load hb1)
  have L2 := hidMk (load_id hk n1)
  have HB := hidMk b1
  clear E1 n1 b1 hb1 o1 es hat bW hb ho h2
  show Calls Tryd.prog 63 #[k.v, .pointer (some ⟨ib, 0, none⟩)] w _
  go_enter Tryd.func63, Tryd.ntmps63
  go_wp2_with (first
    | (refine wpList_run rfl (exec_boxE (t := 38) (v := k.v) (u := .pointer (some ⟨w.heap.size, 0, none⟩)) (w2 := w1) rfl rfl H1.out) ?_)
    | (refine wpList_val rfl (exec_load (t := 43) (v := s.v) rfl rfl L1.out) ?_)
    | (refine wpList_val rfl (exec_load (t := 38) (v := k.v) rfl rfl L2.out) ?_)
    | (go_at_call 33; refine CS.out.mono ?_; rintro e w2 ⟨rfl, b2⟩; have B2 := hidMk b2; clear b2 CS)
    | fail)
  go_ret
  exact ⟨rfl, HB.out.trans (B2.out.mono HB.out.size)⟩
end Go.Proofs.YtldlljobofnmmaaDoor

namespace Go.Proofs.YtldlljobofnmmaaDoor
open Go.RowKit
set_option linter.unusedVariables false
set_option linter.unusedSimpArgs false

/-- What the law was handed. -/
structure LwI (w : World) (pa : Option Addr) (Ps : List PlK) (a : Option Addr) (L : List SyR) : Prop where
  hP : RowAt 67 PlK.c w pa Ps
  okP : ∀ x ∈ Ps, x.ok
  hPn : Ps.length ≤ 2000000000000
  hL : RowAt 8 SyR.c w a L
  okL : ∀ x ∈ L, x.ok w
  hLn : L.length ≤ 2000000000000
theorem OpN.from {W W3 w' : World} {base : Nat} {s s' : Rs} {H : List Rec} {p : PlK} {L : List EnV} {rc : Rec} (b : Below W.heap.size W W3) (h : OpN W3 base s H p L rc s' w') : OpN W base s H p L rc s' w' := ⟨h.at', h.r, h.li, fun j hj => (h.al j hj).imp id (Nat.le_trans b.size), (tch_of b _).trans' h.tch (fun j _ q => q), Nat.le_trans b.size h.new, h.rp, h.rb⟩
theorem res_enP (I : List IdK) (M : List (IdK × VaV)) : Rg.res (fun y : EnV => decide (y.id ∈ I)) (M.map enP) = (M.filter (fun x => !decide (x.1 ∈ I))).map enP := by
  unfold Rg.res
  rw [List.filter_map]
  rfl
theorem chs_enP (I : List IdK) (f : VaV → VaV) (M : List (IdK × VaV)) : chs (fun y : EnV => decide (y.id ∈ I)) f (M.map enP) = (M.map (fun x => if decide (x.1 ∈ I) then (x.1, f x.2) else x)).map enP := by
  unfold chs
  rw [List.map_map, List.map_map]
  refine List.map_congr_left fun x _ => ?_
  by_cases h : x.1 ∈ I <;> simp [enP, chg, h]
set_option maxRecDepth 100000 in
set_option maxHeartbeats 8000000 in
/-- do. -/
theorem do_any {w W : World} {B : Nat} {s : Rs} {H : List Rec} (ra : RgAt W B s H) (bel : Below w.heap.size w W) (hlo : w.heap.size ≤ B) (hhi : B ≤ W.heap.size) {pa : Option Addr} {pc : Nat} {Ps : List PlK} {a : Option Addr} {c : Nat} {L : List SyR} (li : LwI w pa Ps a L) {i : Nat} {x : SyR} (hx : L[i]? = some x)
    {M : List (IdK × VaV)} (hM : liOf s.P (atP Ps x.pl) = M.map enP) (hn : M.length + 1 ≤ 2500000000000) :
    Calls Tryd.prog 25 #[.pointer (some ⟨s.r, 0, none⟩), .slice pa Ps.length pc, .slice a L.length c, .int .i64 (i : Int)] W (OpE W B s H (atP Ps x.pl) ((Rv.op nmI i (x.s Ps) M).map enP)) := by
  have hi : i < L.length := (List.getElem?_eq_some_iff.1 hx).1
  have hxo : x.ok w := li.okL x (List.mem_of_getElem? hx)
  obtain ⟨g, o, rfl, lg, hr⟩ : ∃ g o, a = some ⟨g, o, none⟩ ∧ g < w.heap.size ∧ w.rangeAt g (o + 8 * i) x.c := by
    rcases li.hL with h | ⟨g, o, e, h1, h2⟩
    · rw [h] at hx; cases hx
    · exact ⟨g, o, e, h1, by rw [Nat.mul_comm]; exact h2 i x hx⟩
  have HX := hidMk (fun (W' : World) (hw : Below w.heap.size w W') => rangeAt_keep hr (hw.block _ lg))
  have hLn := li.hLn
  have HAT : Hid (∀ W', Below w.heap.size w W' → Calls Tryd.prog 15 #[.slice pa Ps.length pc, .int .i64 x.pl] W' fun e w' => e = .returned (atP Ps x.pl).v ∧ Below W'.heap.size W' w') := fun W' b => at_any (li.hP.below b) li.okP li.hPn hxo.pl
  have hp : (atP Ps x.pl).ok := atP_ok li.okP _
  obtain ⟨kn, hkn⟩ : ∃ kn, (x.s Ps).kn = kn := ⟨_, rfl⟩
  have HKN := hidMk (show ∀ k : Nat, decide ((k : Int) ∈ x.sl) = kn k by intro k; rw [← hkn]; rfl)
  have HOP : Hid ((x.kind = 1 → Rg.res (fun y : EnV => decide (y.id ∈ idsK kn i)) (liOf s.P (atP Ps x.pl)) = (Rv.op nmI i (x.s Ps) M).map enP) ∧ (x.kind = 2 → chs (fun y : EnV => decide (y.id ∈ idsK kn i)) (sumV x.n) (liOf s.P (atP Ps x.pl)) = (Rv.op nmI i (x.s Ps) M).map enP) ∧ (x.kind ≠ 1 → x.kind ≠ 2 → Rg.res (fun y : EnV => decide (y.id ∈ idsK kn i)) (liOf s.P (atP Ps x.pl)) ++ [⟨nmI i, x.v⟩] = (Rv.op nmI i (x.s Ps) M).map enP)) := by
    have e1 : Rv.ids nmI (x.s Ps) i = idsK kn i := by rw [← hkn]; rfl
    have e2 : (x.s Ps).kd = x.kind := rfl
    rw [hM]
    unfold Rv.op
    rw [e1, e2]
    refine ⟨fun h => ?_, fun h => ?_, fun h1 h2 => ?_⟩
    · rw [if_pos h, res_enP]
    · rw [if_neg (by omega), if_pos h, chs_enP]; rfl
    · rw [if_neg h1, if_neg h2, res_enP, List.map_append]; rfl
  have hln : (liOf s.P (atP Ps x.pl)).length + 1 ≤ 2500000000000 := by rw [hM, List.length_map]; exact hn
  obtain ⟨L', hL'⟩ : ∃ L', (Rv.op nmI i (x.s Ps) M).map enP = L' := ⟨_, rfl⟩
  rw [hL'] at HOP ⊢
  obtain ⟨p, hp0⟩ : ∃ p, atP Ps x.pl = p := ⟨_, rfl⟩
  rw [hp0] at HAT hp HOP hln ⊢
  obtain ⟨n, hnn⟩ : ∃ n, L.length = n := ⟨_, rfl⟩
  obtain ⟨pn, hpn⟩ : ∃ n, Ps.length = n := ⟨_, rfl⟩
  rw [hnn] at hi hLn ⊢
  rw [hpn] at HAT ⊢
  have h63 : n ≤ 9223372036854775807 := by omega
  have HRA := hidMk (And.intro ra (And.intro bel (And.intro hlo (And.intro hhi (And.intro hxo hln)))))
  obtain ⟨W1, E1, ib1⟩ := idl_new W
  have H1 := hidMk E1
  obtain ⟨ib, hib⟩ : ∃ b, W.heap.size = b := ⟨_, rfl⟩
  have HIB := hidMk hib
  have I1 : Hid (∃ iv, IdB W ib iv (idsK kn 0) W1) := ⟨_, by rw [← hib]; exact ib1⟩
  rw [hib] at H1
  clear ra bel hlo hhi hxo li hx hM hn hr lg hkn hL' hp0 hnn hpn E1 ib1 hln hib
  obtain ⟨sr, hsr⟩ : ∃ b, s.r = b := ⟨_, rfl⟩
  have HSR := hidMk hsr
  rw [hsr]
  clear hsr
  go_enter Tryd.func25, Tryd.ntmps25
  go_wp2_with (first
    | (refine wpList_run rfl (exec_alloc (w2 := W1) rfl H1.out) ?_)
    | fail)
  clear H1
  go_loopw [10] (fun v10 wr => ∃ k : Nat, v10 = .int .i64 (k : Int) ∧ k ≤ i ∧ Hid (∃ iv, IdB W ib iv (idsK kn k) wr)) (fun v10 wr => i - (match v10 with | .int _ i => i.toNat | _ => 0))
  case atStart => exact ⟨0, rfl, Nat.zero_le _, I1⟩
  case round =>
    clear I1
    obtain ⟨k, rfl, hki, HI⟩ := hrel
    by_cases hk : k < i
    · have CK : Hid (Calls Tryd.prog 28 #[x.a, .int .i64 (k : Int)] wr fun e w' => e = .returned (.bool (kn k)) ∧ ∃ iv, IdB W ib iv (idsK kn k) w') := by
        obtain ⟨iv, hb⟩ := HI.out
        have bw : Below w.heap.size w wr := HRA.out.2.1.trans (hb.bel.mono HRA.out.2.1.size)
        refine (knows_any (HRA.out.2.2.2.2.1.below bw) (k := k) (by omega)).mono ?_
        rintro e w' ⟨rfl, b⟩
        exact ⟨by rw [HKN.out], iv, hb.below b⟩
      have LS : Hid (∀ W', W' = wr → (Instr.loadAt 74 (.pointer (some ⟨g, o + 8 * i, none⟩))).run Tryd.prog W' = .ok x.a W') := fun W' e => by
        obtain ⟨iv, hb⟩ := HI.out
        rw [e]
        exact ld_say (HX.out wr (HRA.out.2.1.trans (hb.bel.mono HRA.out.2.1.size)))
      clear HI
      go_upto_region 5 with fail
      refine do5 (g := g) (o := o) (n := n) (c := c) (i := i) (k := k) (x := x) (r := kn k) (fun w' => ∃ iv, IdB W ib iv (idsK kn k) w') _ wr _ rfl rfl rfl rfl hi h63 LS.out CK.out ?_
      intro a' w3 hf ha
      subst ha
      simp only [Act.put, List.setIfInBounds_toArray, List.set_cons_zero, List.set_cons_succ]
      have H3 := hidMk hf
      clear hf CK LS
      by_cases hs : kn k = true
      · have HS := hidMk hs
        rw [hs]
        clear hs
        obtain ⟨iv, hb⟩ := H3.out
        obtain ⟨sv0, esv⟩ := hb.sl
        have hbd := hb.below (Below.refl w3.heap.size w3).drew
        have LI : Hid (∀ W' : World, W'.heap[ib]? = some (.cells #[iv] 43 (0, 0)) → (Instr.loadAt 43 (.pointer (some ⟨ib, 0, none⟩))).run Tryd.prog W' = .ok iv W') := fun W' h => by
          rw [esv] at h ⊢
          exact idl_load h
        have CN : Hid (Calls Tryd.prog 27 #[.int .i64 (k : Int)] w3.drew fun e w' => e = .returned (nmI k).v ∧ w'.heap[ib]? = some (.cells #[iv] 43 (0, 0)) ∧ ∃ sv w1 u w2 w3, (Instr.buildSlice 43 1 #[(0, (nmI k).v)]).run Tryd.prog w' = .ok sv w1 ∧ w1.heap[ib]? = some (.cells #[iv] 43 (0, 0)) ∧ (Builtin.append_ #[43, 43] 43 #[iv, sv]).run Tryd.prog w1 = .ok u w2 ∧ w2.heap[ib]? = some (.cells #[iv] 43 (0, 0)) ∧ (Instr.storeAt 43 (.pointer (some ⟨ib, 0, none⟩)) u).run Tryd.prog w2 = .ok () w3 ∧ ∃ iv', IdB W ib iv' (idsK kn (k + 1)) w3) := by
          refine (name_any w3.drew (i := k) (by omega)).mono ?_
          rintro e w' ⟨rfl, b⟩
          have h2 := hbd.below b
          refine ⟨rfl, h2.b, ?_⟩
          have := h2.push (by rw [HIB.out]; exact Nat.le_refl _) (nmI_ok (i := k) (by omega)) (by have := idsK_len kn k; omega)
          rw [idsK_succ, if_pos HS.out]
          exact this
        have HB := hidMk hbd.b
        clear hb hbd esv H3
        go_upto_region 6 with fail
        refine do6 (ib := ib) (k := k) (iv := iv) (y := nmI k) (fun W' => W'.heap[ib]? = some (.cells #[iv] 43 (0, 0))) (fun w' => ∃ iv', IdB W ib iv' (idsK kn (k + 1)) w') _ w3 _ rfl rfl rfl HB.out LI.out CN.out ?_
        intro sv u a' w4 hf ha
        subst ha
        simp only [Act.put, List.setIfInBounds_toArray, List.set_cons_zero, List.set_cons_succ]
        have H4 := hidMk hf
        clear hf CN LI HB
        go_wp2
        rw [show ((k : Int) + 1) = ((k + 1 : Nat) : Int) by omega]
        refine ⟨⟨k + 1, rfl, hk, H4.out⟩, ?_⟩
        show i - ((k + 1 : Nat) : Int).toNat < i - (k : Int).toNat
        omega
      · have HS := hidMk hs
        rw [show kn k = false by simpa using hs]
        clear hs
        go_wp2
        rw [show ((k : Int) + 1) = ((k + 1 : Nat) : Int) by omega]
        refine ⟨⟨k + 1, rfl, hk, by rw [idsK_succ, if_neg HS.out]; exact H3.out⟩, ?_⟩
        show i - ((k + 1 : Nat) : Int).toNat < i - (k : Int).toNat
        omega
    · obtain rfl : k = i := by omega
      have HI2 := hidMk HI.out
      clear HI hki hk
      have SEEN : Hid (∃ sn : SlV, IdB W ib sn.v (idsK kn k) wr ∧ ∀ W', Below wr.heap.size wr W' → Seen W' (.func (.func 63) #[] #[.pointer (some ⟨ib, 0, none⟩)]) (fun id => decide (id ∈ idsK kn k))) := by
        obtain ⟨iv, hb⟩ := HI2.out
        obtain ⟨sn, rfl⟩ := hb.sl
        exact ⟨sn, hb, fun W' b => Seen.below (.inr ⟨_, _, rfl, tells_do hb.b hb.o (idsK_ok kn (by omega)) (by have := idsK_len kn k; omega)⟩) b⟩
      clear HI2
      have BR : Hid (Below W.heap.size W wr ∧ Below w.heap.size w wr) := by
        obtain ⟨sn, hb, _⟩ := SEEN.out
        exact ⟨hb.bel, HRA.out.2.1.trans (hb.bel.mono HRA.out.2.1.size)⟩
      have CA : Hid (Calls Tryd.prog 15 #[.slice pa pn pc, .int .i64 x.pl] wr fun e w' => e = .returned p.v ∧ ∃ pb w1 w2, (Instr.alloc 52 true (.tuple #[])).run Tryd.prog w' = .ok (.pointer (some ⟨pb, 0, none⟩)) w1 ∧ (Instr.storeAt 52 (.pointer (some ⟨pb, 0, none⟩)) p.v).run Tryd.prog w1 = .ok () w2 ∧ (Below wr.heap.size wr w2 ∧ Np pb p w2)) := by
        refine (HAT.out wr BR.out.2).mono ?_
        rintro e w' ⟨rfl, b⟩
        obtain ⟨w1, w2, e1, e2, n2, b2⟩ := pl_new w' hp
        exact ⟨rfl, w'.heap.size, w1, w2, e1, e2, b.trans (b2.mono b.size), n2⟩
      go_upto_region 8 with fail
      refine do8 (g := g) (o := o) (n := n) (c := c) (i := k) (pn := pn) (pc := pc) (pa := pa) (p := p) (x := x) (fun pb w' => Below wr.heap.size wr w' ∧ Np pb p w') _ wr _ rfl rfl rfl rfl hi h63 (fun W' e => by rw [e]; exact say_pl (HX.out wr BR.out.2)) CA.out ?_
      intro pb a' w3 hf ha
      subst ha
      simp only [Act.put, List.setIfInBounds_toArray, List.set_cons_zero, List.set_cons_succ]
      have H3 : Hid (Below W.heap.size W w3 ∧ Below w.heap.size w w3 ∧ Np pb p w3 ∧ Seen w3 (.func (.func 63) #[] #[.pointer (some ⟨ib, 0, none⟩)]) (fun id => decide (id ∈ idsK kn k))) := by
        obtain ⟨sn, hb, hsn⟩ := SEEN.out
        exact ⟨BR.out.1.trans (hf.1.mono BR.out.1.size), BR.out.2.trans (hf.1.mono BR.out.2.size), hf.2, hsn w3 hf.1⟩
      -- what an op leaves
      have FIN : Hid (∀ W4, Below w3.heap.size w3 W4 → ∀ L2, L2 = L' → ∀ e w', OpE W4 B s H p L2 e w' → ∃ bk, e = .returned (.pointer (some ⟨bk, 0, none⟩)) ∧ (Below w.heap.size w w' ∧ Np pb p w') ∧ ∃ (rc : Rec) (s' : Rs), rc.bk = bk ∧ OpN W B s H p L' rc s' w') := by
        rintro W4 b4 L2 rfl e w' ⟨rc, s', rfl, o⟩
        have b34 := H3.out.1.trans (b4.mono H3.out.1.size)
        have o2 := o.from b34
        have ra := HRA.out.1
        have bw : Below w.heap.size w w' := HRA.out.2.1.trans (o2.tch.below HRA.out.2.1.size (fun j hj => Nat.le_trans HRA.out.2.2.1 (ra.mem.geAll hj)))
        have np4 := H3.out.2.2.1.below b4
        have np' : Np pb p w' := (o.tch.block _ (Array.getElem?_eq_some_iff.1 np4).1 ((ra.mem.below b34).other np4 (by decide) (by decide))).trans np4
        exact ⟨_, rfl, ⟨bw, np'⟩, rc, s', rfl, o2⟩
      clear hf CA SEEN BR
      go_upto_region 9 with fail
      refine do9 (g := g) (o := o) (n := n) (c := c) (i := k) (x := x) _ w3 _ rfl rfl rfl hi h63 (fun W' e => by rw [e]; exact say_kind (HX.out w3 H3.out.2.1)) ?_
      intro a' w4 hf ha
      subst ha
      obtain rfl : w3 = w4 := hf.symm
      simp only [Act.put, List.setIfInBounds_toArray, List.set_cons_zero, List.set_cons_succ]
      have bd : Below w3.heap.size w3 w3.drew := (Below.refl w3.heap.size w3).drew
      by_cases h1 : x.kind = 1
      · have HK := hidMk h1
        rw [h1]
        have CD : Hid (Calls Tryd.prog 17 #[.pointer (some ⟨sr, 0, none⟩), p.v, .func (.func 63) #[] #[.pointer (some ⟨ib, 0, none⟩)]] w3 fun e w' => ∃ bk, e = .returned (.pointer (some ⟨bk, 0, none⟩)) ∧ ∃ (rc : Rec) (s' : Rs), rc.bk = bk ∧ OpN W B s H p L' rc s' w') := by
          rw [← HSR.out]
          refine (delete_any (HRA.out.1.below H3.out.1) (Nat.le_trans HRA.out.2.2.2.1 H3.out.1.size) hp H3.out.2.2.2 (by have := HRA.out.2.2.2.2.2; omega)).mono ?_
          intro e w' ho
          obtain ⟨bk, e1, _, e2⟩ := FIN.out w3 (Below.refl _ _) _ (HOP.out.1 HK.out) e w' ho
          exact ⟨bk, e1, e2⟩
        have LP := hidMk (ld_pl hp (rng_cells H3.out.2.2.1))
        clear h1
        go_upto_region 11 with fail
        refine do11 (fv := .func (.func 63) #[] #[.pointer (some ⟨ib, 0, none⟩)]) (rb := sr) (pb := pb) (p := p) (fun bk w' => ∃ (rc : Rec) (s' : Rs), rc.bk = bk ∧ OpN W B s H p L' rc s' w') _ w3 _ rfl rfl rfl rfl (fun W' e => by rw [e]; exact LP.out) CD.out ?_
        intro bk a' w5 hf ha
        subst ha
        simp only [Act.put, List.setIfInBounds_toArray, List.set_cons_zero, List.set_cons_succ]
        have HF := hidMk hf
        clear hf CD
        go_wp2
        go_ret
        obtain ⟨rc, s', e, o⟩ := HF.out
        subst e
        exact ⟨rc, s', rfl, o⟩
      · have e1 : (x.kind == 1) = false := by simpa using h1
        by_cases h2 : x.kind = 2
        · have HK := hidMk h2
          rw [h2]
          have CD : Hid (Calls Tryd.prog 18 #[.pointer (some ⟨sr, 0, none⟩), p.v, .int .i64 x.n, .func (.func 63) #[] #[.pointer (some ⟨ib, 0, none⟩)]] w3.drew fun e w' => ∃ bk, e = .returned (.pointer (some ⟨bk, 0, none⟩)) ∧ (Below w.heap.size w w' ∧ Np pb p w') ∧ ∃ (rc : Rec) (s' : Rs), rc.bk = bk ∧ OpN W B s H p L' rc s' w') := by
            rw [← HSR.out]
            refine (add_any ((HRA.out.1.below H3.out.1).below bd) (Nat.le_trans HRA.out.2.2.2.1 H3.out.1.size) hp HRA.out.2.2.2.2.1.n (H3.out.2.2.2.below bd) (by have := HRA.out.2.2.2.2.2; omega)).mono ?_
            intro e w' ho
            exact FIN.out w3.drew bd _ (HOP.out.2.1 HK.out) e w' ho
          clear h1 h2 e1
          go_upto_region 13 with fail
          refine do13 (fv := .func (.func 63) #[] #[.pointer (some ⟨ib, 0, none⟩)]) (rb := sr) (pb := pb) (g := g) (o := o) (n := n) (c := c) (i := k) (p := p) (x := x) (fun W' => Below w.heap.size w W' ∧ Np pb p W') (fun bk w' => ∃ (rc : Rec) (s' : Rs), rc.bk = bk ∧ OpN W B s H p L' rc s' w') _ w3 _ rfl rfl rfl rfl rfl rfl hi h63 ⟨H3.out.2.1.drew, H3.out.2.2.1.below bd⟩ (fun W' h => ld_pl hp (rng_cells h.2)) (fun W' h => say_n (HX.out W' h.1)) CD.out ?_
          intro bk a' w5 hf ha
          subst ha
          simp only [Act.put, List.setIfInBounds_toArray, List.set_cons_zero, List.set_cons_succ]
          have HF := hidMk hf
          clear hf CD bd
          go_wp2
          go_ret
          obtain ⟨rc, s', e, o⟩ := HF.out
          subst e
          exact ⟨rc, s', rfl, o⟩
        · have e2 : (x.kind == 2) = false := by simpa using h2
          have HK := hidMk (And.intro h1 h2)
          have CD : Hid (Calls Tryd.prog 27 #[.int .i64 (k : Int)] w3.drew fun e w1 => e = .returned (nmI k).v ∧ (Below w.heap.size w w1 ∧ Np pb p w1) ∧ Calls Tryd.prog 16 #[.pointer (some ⟨sr, 0, none⟩), p.v, (nmI k).v, x.v.v, .func (.func 63) #[] #[.pointer (some ⟨ib, 0, none⟩)]] w1 fun e w' => ∃ bk, e = .returned (.pointer (some ⟨bk, 0, none⟩)) ∧ (Below w.heap.size w w' ∧ Np pb p w') ∧ ∃ (rc : Rec) (s' : Rs), rc.bk = bk ∧ OpN W B s H p L' rc s' w') := by
            rw [← HSR.out]
            refine (name_any w3.drew (i := k) (by omega)).mono ?_
            rintro e w1 ⟨rfl, b1⟩
            have b31 := bd.trans (b1.mono bd.size)
            refine ⟨rfl, ⟨H3.out.2.1.trans (b31.mono H3.out.2.1.size), H3.out.2.2.1.below b31⟩, ?_⟩
            refine (put_any ((HRA.out.1.below H3.out.1).below b31) (Nat.le_trans HRA.out.2.2.2.1 (Nat.le_trans H3.out.1.size b31.size)) hp (nmI_ok (i := k) (by omega)) HRA.out.2.2.2.2.1.v (H3.out.2.2.2.below b31) (by have := HRA.out.2.2.2.2.2; omega)).mono ?_
            intro e w' ho
            exact FIN.out w1 b31 _ (HOP.out.2.2 HK.out.1 HK.out.2) e w' ho
          clear h1 h2
          generalize x.kind = z at e1 e2 ⊢
          go_upto_region 14 with fail
          refine do14 (fv := .func (.func 63) #[] #[.pointer (some ⟨ib, 0, none⟩)]) (rb := sr) (pb := pb) (g := g) (o := o) (n := n) (c := c) (i := k) (p := p) (x := x) (y := nmI k) (fun W' => Below w.heap.size w W' ∧ Np pb p W') (fun bk w' => ∃ (rc : Rec) (s' : Rs), rc.bk = bk ∧ OpN W B s H p L' rc s' w') _ w3 _ rfl rfl rfl rfl rfl rfl hi h63 ⟨H3.out.2.1.drew, H3.out.2.2.1.below bd⟩ (fun W' h => ld_pl hp (rng_cells h.2)) (fun W' h => say_va (HX.out W' h.1)) CD.out ?_
          intro bk a' w5 hf ha
          subst ha
          simp only [Act.put, List.setIfInBounds_toArray, List.set_cons_zero, List.set_cons_succ]
          have HF := hidMk hf
          clear hf CD bd
          go_wp2
          go_ret
          obtain ⟨rc, s', e, o⟩ := HF.out
          subst e
          exact ⟨rc, s', rfl, o⟩
end Go.Proofs.YtldlljobofnmmaaDoor

namespace Go.Proofs.YtldlljobofnmmaaDoor
open Go.RowKit
set_option linter.unusedVariables false
set_option linter.unusedSimpArgs false

def sme6_o0 : Oper := { dst := some 17, op := Op.move (Operand.tmp 0), type := 60, pos := "mem.go:127", after := #[], guard := none }
def sme6_o1 : Oper := { dst := some 18, op := Op.move (Operand.tmp 5), type := 3, pos := "mem.go:127", after := #[], guard := none }
def sme6_o2 : Oper := { dst := some 19, op := Op.indexAddr 60 (Operand.tmp 17) (Operand.tmp 18), type := 0, pos := "mem.go:127", after := #[{ on := 0, ground := Ground.data }, { on := 1, ground := Ground.data }], guard := none }
def sme6_o3 : Oper := { dst := some 20, op := Op.fieldAddr 63 (Operand.tmp 19) 0, type := 0, pos := "mem.go:127", after := #[{ on := 2, ground := Ground.data }], guard := none }
def sme6_o4 : Oper := { dst := some 21, op := Op.load 38 (Operand.tmp 20), type := 38, pos := "mem.go:127", after := #[{ on := 3, ground := Ground.data }], guard := none }
def sme6_o5 : Oper := { dst := some 22, op := Op.move (Operand.tmp 1), type := 60, pos := "mem.go:127", after := #[], guard := none }
def sme6_o6 : Oper := { dst := some 23, op := Op.move (Operand.tmp 5), type := 3, pos := "mem.go:127", after := #[], guard := none }
def sme6_o7 : Oper := { dst := some 24, op := Op.indexAddr 60 (Operand.tmp 22) (Operand.tmp 23), type := 0, pos := "mem.go:127", after := #[{ on := 5, ground := Ground.data }, { on := 6, ground := Ground.data }], guard := none }
def sme6_o8 : Oper := { dst := some 25, op := Op.fieldAddr 63 (Operand.tmp 24) 0, type := 0, pos := "mem.go:127", after := #[{ on := 7, ground := Ground.data }], guard := none }
def sme6_o9 : Oper := { dst := some 26, op := Op.load 38 (Operand.tmp 25), type := 38, pos := "mem.go:127", after := #[{ on := 8, ground := Ground.data }], guard := none }
def sme6_o10 : Oper := { dst := some 27, op := Op.binOp BinOp.neq 38 (Operand.tmp 21) (Operand.tmp 26) 38, type := 4, pos := "mem.go:127", after := #[{ on := 4, ground := Ground.data }, { on := 9, ground := Ground.data }], guard := none }
def sme6_o11 : Oper := { dst := some 28, op := Op.move (Operand.tmp 27), type := 4, pos := "mem.go:127", after := #[{ on := 10, ground := Ground.data }], guard := none }
def sme6_o12 : Oper := { dst := some 29, op := Op.move (Operand.tmp 0), type := 60, pos := "mem.go:127", after := #[{ on := 11, ground := Ground.guard }], guard := some (11, false) }
def sme6_o13 : Oper := { dst := some 30, op := Op.move (Operand.tmp 5), type := 3, pos := "mem.go:127", after := #[{ on := 11, ground := Ground.guard }], guard := some (11, false) }
def sme6_o14 : Oper := { dst := some 31, op := Op.indexAddr 60 (Operand.tmp 29) (Operand.tmp 30), type := 0, pos := "mem.go:127", after := #[{ on := 12, ground := Ground.data }, { on := 13, ground := Ground.data }, { on := 11, ground := Ground.guard }], guard := some (11, false) }
def sme6_o15 : Oper := { dst := some 32, op := Op.fieldAddr 63 (Operand.tmp 31) 1, type := 0, pos := "mem.go:127", after := #[{ on := 14, ground := Ground.data }, { on := 11, ground := Ground.guard }], guard := some (11, false) }
def sme6_o16 : Oper := { dst := some 33, op := Op.load 42 (Operand.tmp 32), type := 42, pos := "mem.go:127", after := #[{ on := 15, ground := Ground.data }, { on := 11, ground := Ground.guard }], guard := some (11, false) }
def sme6_o17 : Oper := { dst := some 34, op := Op.move (Operand.tmp 1), type := 60, pos := "mem.go:127", after := #[{ on := 11, ground := Ground.guard }], guard := some (11, false) }
def sme6_o18 : Oper := { dst := some 35, op := Op.move (Operand.tmp 5), type := 3, pos := "mem.go:127", after := #[{ on := 11, ground := Ground.guard }], guard := some (11, false) }
def sme6_o19 : Oper := { dst := some 36, op := Op.indexAddr 60 (Operand.tmp 34) (Operand.tmp 35), type := 0, pos := "mem.go:127", after := #[{ on := 17, ground := Ground.data }, { on := 18, ground := Ground.data }, { on := 11, ground := Ground.guard }], guard := some (11, false) }
def sme6_o20 : Oper := { dst := some 37, op := Op.fieldAddr 63 (Operand.tmp 36) 1, type := 0, pos := "mem.go:127", after := #[{ on := 19, ground := Ground.data }, { on := 11, ground := Ground.guard }], guard := some (11, false) }
def sme6_o21 : Oper := { dst := some 38, op := Op.load 42 (Operand.tmp 37), type := 42, pos := "mem.go:127", after := #[{ on := 20, ground := Ground.data }, { on := 11, ground := Ground.guard }], guard := some (11, false) }
def sme6_o22 : Oper := { dst := some 39, op := Op.call { callee := Callee.value (Operand.func 22), args := #[Operand.tmp 33, Operand.tmp 38], argTypes := #[42, 42] }, type := 4, pos := "mem.go:127", after := #[{ on := 16, ground := Ground.data }, { on := 21, ground := Ground.data }, { on := 11, ground := Ground.chain }, { on := 11, ground := Ground.guard }], guard := some (11, false) }
def sme6_o23 : Oper := { dst := some 40, op := Op.unOp UnOp.not 4 (Operand.tmp 39), type := 4, pos := "mem.go:127", after := #[{ on := 22, ground := Ground.data }, { on := 11, ground := Ground.guard }], guard := some (11, false) }
def sme6_o24 : Oper := { dst := some 41, op := Op.pick (Operand.tmp 28) (Operand.const (Value.bool true)) (Operand.tmp 40), type := 4, pos := "mem.go:127", after := #[{ on := 11, ground := Ground.data }, { on := 23, ground := Ground.data }], guard := none }
def sme6_ops : Array Oper := #[sme6_o0, sme6_o1, sme6_o2, sme6_o3, sme6_o4, sme6_o5, sme6_o6, sme6_o7, sme6_o8, sme6_o9, sme6_o10, sme6_o11, sme6_o12, sme6_o13, sme6_o14, sme6_o15, sme6_o16, sme6_o17, sme6_o18, sme6_o19, sme6_o20, sme6_o21, sme6_o22, sme6_o23, sme6_o24]
set_option maxRecDepth 100000 in
set_option maxHeartbeats 4000000 in
theorem sme6 {g o n c k q d i : Nat} {x : EnV} (S : World → Prop) (a : Act) (w : World) (Q : Exit → Act → World → Prop) (zz : a.tmps.size = 42)
    (t0 : a.tmps.getD 0 undef = .slice (some ⟨g, o, none⟩) n c)
    (t1 : a.tmps.getD 1 undef = .slice (some ⟨k, q, none⟩) n d)
    (t5 : a.tmps.getD 5 undef = .int .i64 (i : Int))
    (hx : x.ok) (hi : i < n) (hm : n ≤ 9223372036854775807) (h0 : S w.drew) (L1 : ∀ W, S W → (Instr.loadAt 38 (.pointer (some ⟨g, o + 37 * i + 0, none⟩))).run Tryd.prog W = .ok (x.id.v) W) (L2 : ∀ W, S W → (Instr.loadAt 38 (.pointer (some ⟨k, q + 37 * i + 0, none⟩))).run Tryd.prog W = .ok (x.id.v) W) (L3 : ∀ W, S W → (Instr.loadAt 42 (.pointer (some ⟨g, o + 37 * i + 33, none⟩))).run Tryd.prog W = .ok (x.v.v) W) (L4 : ∀ W, S W → (Instr.loadAt 42 (.pointer (some ⟨k, q + 37 * i + 33, none⟩))).run Tryd.prog W = .ok (x.v.v) W) (CS : Calls Tryd.prog 22 #[x.v.v, x.v.v] w.drew fun e w' => e = .returned (.bool true) ∧ S w')
    (h : ∀ (a' : Act) (w' : World), S w' → a' = (((((((((((((((((((((((((a).put (some 17) (.slice (some ⟨g, o, none⟩) n c)).put (some 18) (.int .i64 (i : Int))).put (some 19) (.pointer (some ⟨g, o + 37 * i, none⟩))).put (some 20) (.pointer (some ⟨g, o + 37 * i + 0, none⟩))).put (some 21) (x.id.v)).put (some 22) (.slice (some ⟨k, q, none⟩) n d)).put (some 23) (.int .i64 (i : Int))).put (some 24) (.pointer (some ⟨k, q + 37 * i, none⟩))).put (some 25) (.pointer (some ⟨k, q + 37 * i + 0, none⟩))).put (some 26) (x.id.v)).put (some 27) (.bool false)).put (some 28) (.bool false)).put (some 29) (.slice (some ⟨g, o, none⟩) n c)).put (some 30) (.int .i64 (i : Int))).put (some 31) (.pointer (some ⟨g, o + 37 * i, none⟩))).put (some 32) (.pointer (some ⟨g, o + 37 * i + 33, none⟩))).put (some 33) (x.v.v)).put (some 34) (.slice (some ⟨k, q, none⟩) n d)).put (some 35) (.int .i64 (i : Int))).put (some 36) (.pointer (some ⟨k, q + 37 * i, none⟩))).put (some 37) (.pointer (some ⟨k, q + 37 * i + 33, none⟩))).put (some 38) (x.v.v)).put (some 39) (.bool true)).put (some 40) (.bool false)).put (some 41) (.bool false) → Q .normal a' w') :
    (Code.region 6 sme6_ops true).wp Tryd.prog Q a w := by
  refine y0 (fun w' => S w') (h0) (fun hHeld => ?_)
  refine yv 0 rfl rfl (fun w1 hw => exec_move rfl (zi t0 rfl)) hHeld ?_
  refine yv 1 rfl rfl (fun w1 hw => exec_move rfl (zi t5 rfl)) hHeld ?_
  refine yv 2 rfl rfl (fun w1 hw => exec_indexAt rfl (zg zz rfl) (zg zz rfl) (ix_en hi hm _)) hHeld ?_
  refine yv 3 rfl rfl (fun w1 hw => exec_fieldAt rfl (zg zz rfl) (fg_63_0 _ _ _)) hHeld ?_
  refine yv 4 rfl rfl (fun w1 hw => exec_load rfl (zg zz rfl) (L1 _ hw)) hHeld ?_
  refine yv 5 rfl rfl (fun w1 hw => exec_move rfl (zi t1 rfl)) hHeld ?_
  refine yv 6 rfl rfl (fun w1 hw => exec_move rfl (zi t5 rfl)) hHeld ?_
  refine yv 7 rfl rfl (fun w1 hw => exec_indexAt rfl (zg zz rfl) (zg zz rfl) (ix_en hi hm _)) hHeld ?_
  refine yv 8 rfl rfl (fun w1 hw => exec_fieldAt rfl (zg zz rfl) (fg_63_0 _ _ _)) hHeld ?_
  refine yv 9 rfl rfl (fun w1 hw => exec_load rfl (zg zz rfl) (L2 _ hw)) hHeld ?_
  refine yv (v := .bool false) 10 rfl rfl (fun w1 hw => ex_neqX hx.i rfl (zg zz rfl) (zg zz rfl)) hHeld ?_
  refine yv 11 rfl rfl (fun w1 hw => exec_move rfl (zg zz rfl)) hHeld ?_
  refine yv 12 rfl (zw zz rfl rfl rfl (zg zz rfl)) (fun w1 hw => exec_move rfl (zi t0 rfl)) hHeld ?_
  refine yv 13 rfl (zw zz rfl rfl rfl (zg zz rfl)) (fun w1 hw => exec_move rfl (zi t5 rfl)) hHeld ?_
  refine yv 14 rfl (zw zz rfl rfl rfl (zg zz rfl)) (fun w1 hw => exec_indexAt rfl (zg zz rfl) (zg zz rfl) (ix_en hi hm _)) hHeld ?_
  refine yv 15 rfl (zw zz rfl rfl rfl (zg zz rfl)) (fun w1 hw => exec_fieldAt rfl (zg zz rfl) (fg_63_1 _ _ _)) hHeld ?_
  refine yv 16 rfl (zw zz rfl rfl rfl (zg zz rfl)) (fun w1 hw => exec_load rfl (zg zz rfl) (L3 _ hw)) hHeld ?_
  refine yv 17 rfl (zw zz rfl rfl rfl (zg zz rfl)) (fun w1 hw => exec_move rfl (zi t1 rfl)) hHeld ?_
  refine yv 18 rfl (zw zz rfl rfl rfl (zg zz rfl)) (fun w1 hw => exec_move rfl (zi t5 rfl)) hHeld ?_
  refine yv 19 rfl (zw zz rfl rfl rfl (zg zz rfl)) (fun w1 hw => exec_indexAt rfl (zg zz rfl) (zg zz rfl) (ix_en hi hm _)) hHeld ?_
  refine yv 20 rfl (zw zz rfl rfl rfl (zg zz rfl)) (fun w1 hw => exec_fieldAt rfl (zg zz rfl) (fg_63_1 _ _ _)) hHeld ?_
  refine yv 21 rfl (zw zz rfl rfl rfl (zg zz rfl)) (fun w1 hw => exec_load rfl (zg zz rfl) (L4 _ hw)) hHeld ?_
  refine yc 22 rfl (zw zz rfl rfl rfl (zg zz rfl)) (exec_c2 rfl (zg zz rfl) (zg zz rfl)) (CS) (fun e x22 hx => ?_)
  obtain ⟨rfl, S1⟩ := hx
  refine ⟨_, rfl, S1, fun hHeld => ?_⟩
  refine yv 23 rfl (zw zz rfl rfl rfl (zg zz rfl)) (fun w1 hw => exec_not rfl (zg zz rfl)) hHeld ?_
  refine yv 24 rfl rfl (fun w1 hw => exec_pickF rfl (zg zz rfl) (zg zz rfl)) hHeld ?_
  exact ye rfl (h _ _ (S1) rfl)
end Go.Proofs.YtldlljobofnmmaaDoor

namespace Go.Proofs.YtldlljobofnmmaaDoor
open Go.RowKit
set_option linter.unusedVariables false
set_option linter.unusedSimpArgs false

set_option maxRecDepth 100000 in
set_option maxHeartbeats 4000000 in
/-- Two lists of the same entries. -/
theorem same_entries {w : World} {L : List EnV} (ok : ∀ x ∈ L, x.ok) (hn : L.length ≤ 2500000000000) {a b : Option Addr} {c d : Nat} (ha : RN.At w a L) (hb : RN.At w b L) :
    Calls Tryd.prog 30 #[.slice a L.length c, .slice b L.length d] w fun e w' => e = .returned (.bool true) ∧ Below w.heap.size w w' := by
  obtain ⟨n, hnn⟩ : ∃ n, L.length = n := ⟨_, rfl⟩
  have HL := hidMk (And.intro ha (And.intro hb (And.intro ok hnn)))
  rw [hnn] at hn ⊢
  clear ha hb ok hnn
  have hne : ((n : Int) != (n : Int)) = false := by simp
  go_enter Tryd.func30, Tryd.ntmps30
  go_wp2
  clear hne
  go_loopw [5] (fun v5 wr => ∃ i : Nat, v5 = .int .i64 (i : Int) ∧ i ≤ n ∧ Hid (Below w.heap.size w wr)) (fun v5 wr => n - (match v5 with | .int _ i => i.toNat | _ => 0))
  case atStart => exact ⟨0, rfl, Nat.zero_le _, Below.refl _ _⟩
  case round =>
    obtain ⟨i, rfl, hin, HI⟩ := hrel
    by_cases hi : i < n
    · obtain ⟨ha, hb, ok, hnn⟩ := HL.out
      obtain ⟨x, hxi⟩ : ∃ x, L[i]? = some x := ⟨_, List.getElem?_eq_getElem (by omega)⟩
      have hx : x.ok := ok x (List.mem_of_getElem? hxi)
      obtain ⟨g, o, rfl, lg, hr⟩ : ∃ g o, a = some ⟨g, o, none⟩ ∧ g < w.heap.size ∧ w.rangeAt g (o + 37 * i) x.c := by
        rcases ha with h | ⟨g, o, e, h1, h2⟩
        · rw [h] at hxi; cases hxi
        · exact ⟨g, o, e, h1, h2 i x hxi⟩
      obtain ⟨k, q, rfl, lk, hr2⟩ : ∃ g o, b = some ⟨g, o, none⟩ ∧ g < w.heap.size ∧ w.rangeAt g (o + 37 * i) x.c := by
        rcases hb with h | ⟨g, o, e, h1, h2⟩
        · rw [h] at hxi; cases hxi
        · exact ⟨g, o, e, h1, h2 i x hxi⟩
      have R1 := hidMk (fun (W : World) (hw : Below w.heap.size w W) => rangeAt_keep hr (hw.block _ lg))
      have R2 := hidMk (fun (W : World) (hw : Below w.heap.size w W) => rangeAt_keep hr2 (hw.block _ lk))
      have bd : Below w.heap.size w wr.drew := HI.out.drew
      have CS : Hid (Calls Tryd.prog 22 #[x.v.v, x.v.v] wr.drew fun e w' => e = .returned (.bool true) ∧ Below w.heap.size w w') := (same_self hx.w _).mono fun e w' ⟨h1, h2⟩ => ⟨h1, bd.trans (h2.mono bd.size)⟩
      have h63 : n ≤ 9223372036854775807 := by omega
      clear hxi hr hr2 lg lk ha hb ok hnn HI
      go_upto_region 6 with fail
      refine sme6 (g := g) (o := o) (n := n) (c := c) (k := k) (q := q) (d := d) (i := i) (x := x) (fun W => Below w.heap.size w W) _ wr _ rfl rfl rfl rfl hx hi h63 bd (fun W h => en_id hx (R1.out W h)) (fun W h => en_id hx (R2.out W h)) (fun W h => en_va hx (R1.out W h)) (fun W h => en_va hx (R2.out W h)) CS.out ?_
      intro a' w2 hf ha
      subst ha
      simp only [Act.put, List.setIfInBounds_toArray, List.set_cons_zero, List.set_cons_succ]
      have HF := hidMk hf
      clear hf CS R1 R2 bd
      go_wp2
      rw [show ((i : Int) + 1) = ((i + 1 : Nat) : Int) by omega]
      refine ⟨⟨i + 1, rfl, hi, HF.out⟩, ?_⟩
      show n - ((i + 1 : Nat) : Int).toNat < n - (i : Int).toNat
      omega
    · obtain rfl : i = n := by omega
      go_wp2
      go_ret
      exact ⟨rfl, HI.out⟩
end Go.Proofs.YtldlljobofnmmaaDoor

namespace Go.Proofs.YtldlljobofnmmaaDoor
open Go.RowKit
set_option linter.unusedVariables false
set_option linter.unusedSimpArgs false

/-- The calls, without memory. -/
def syF (Ps : List PlK) (L : List SyR) (i : Nat) : Rv.Sy PlK VaV := match L[i]? with | some x => x.s Ps | none => ⟨zPl, 0, zVa, fun _ => false, id⟩
theorem syF_at {Ps : List PlK} {L : List SyR} {i : Nat} {x : SyR} (h : L[i]? = some x) : syF Ps L i = x.s Ps := by unfold syF; rw [h]
/-- A Regs behind the first calls. -/
structure VS (w : World) (B ro : Nat) (Ps : List PlK) (L : List SyR) (i : Nat) (s : Rs) (H : List Rec) (W : World) : Prop where
  ra : RgAt W B s H
  r : s.r = ro
  bel : Below w.heap.size w W
  li : ∀ q, liOf s.P q = (Rv.ls nmI (syF Ps L) q i).map enP
  lo : w.heap.size ≤ B
  hi : B ≤ W.heap.size
section
variable {w W W' : World} {B ro i : Nat} {Ps : List PlK} {L : List SyR} {s : Rs} {H : List Rec}
theorem VS.below (h : VS w B ro Ps L i s H W) (b : Below W.heap.size W W') : VS w B ro Ps L i s H W' := ⟨h.ra.below b, h.r, h.bel.trans (b.mono h.bel.size), h.li, h.lo, Nat.le_trans h.hi b.size⟩
theorem VS.len (h : VS w B ro Ps L i s H W) (q : PlK) : (liOf s.P q).length ≤ i := by
  rw [h.li, List.length_map]
  exact Rv.ls_len _ _ _ _
theorem VS.do (h : VS w B ro Ps L i s H W) {pa : Option Addr} {pc : Nat} {a : Option Addr} {c : Nat} (li : LwI w pa Ps a L) (hi : i < L.length) :
    Calls Tryd.prog 25 #[.pointer (some ⟨ro, 0, none⟩), .slice pa Ps.length pc, .slice a L.length c, .int .i64 (i : Int)] W fun e w' => ∃ bk, e = .returned (.pointer (some ⟨bk, 0, none⟩)) ∧ ∃ s' H', VS w B ro Ps L (i + 1) s' H' w' := by
  obtain ⟨x, hx⟩ : ∃ x, L[i]? = some x := ⟨_, List.getElem?_eq_getElem hi⟩
  have hn := li.hLn
  have hl := Rv.ls_len nmI (syF Ps L) (atP Ps x.pl) i
  have c := do_any h.ra h.bel h.lo h.hi (pc := pc) (c := c) li hx (h.li _) (by omega)
  rw [h.r] at c
  refine c.mono ?_
  rintro e w' ⟨rc, s', rfl, o⟩
  have bw : Below w.heap.size w w' := h.bel.trans (o.tch.below h.bel.size (fun j hj => Nat.le_trans h.lo (h.ra.mem.geAll hj)))
  refine ⟨_, rfl, s', _, ⟨o.at', o.r.trans h.r, bw, fun q => ?_, h.lo, Nat.le_trans h.hi o.tch.size⟩⟩
  rw [o.li]
  have es := syF_at (Ps := Ps) hx
  have ep : (syF Ps L i).pl = atP Ps x.pl := by rw [es]; rfl
  by_cases e : q = atP Ps x.pl
  · rw [if_pos e, Rv.ls_here nmI_inj _ q i (by rw [ep, e]), es, e]
  · rw [if_neg e, h.li, Rv.ls_there _ _ q i (by rw [ep]; exact fun e2 => e e2.symm)]
end
theorem enP_ok {Ps : List PlK} {L : List SyR} {w : World} (okL : ∀ x ∈ L, x.ok w) (hn : L.length ≤ 2000000000000) (p : PlK) {i : Nat} (hi : i < L.length) (k : Nat) : (enP (nmI i, (Rv.tr (syF Ps L) p i k).1)).ok := by
  have base : ((syF Ps L) i).v.ok := by
    obtain ⟨x, hx⟩ : ∃ x, L[i]? = some x := ⟨_, List.getElem?_eq_getElem hi⟩
    rw [syF_at hx]
    exact (okL x (List.mem_of_getElem? hx)).v
  have su : ∀ m v, v.ok → (((syF Ps L) m).su v).ok := fun m v hv => by
    unfold syF
    cases L[m]? with
    | none => exact hv
    | some x => exact sumV_ok hv
  refine ⟨nmI_ok (by omega), ?_⟩
  show ((Rv.tr (syF Ps L) p i k).1).ok
  induction k with
  | zero => exact base
  | succ m ih =>
    unfold Rv.tr
    split
    · exact base
    · split
      · split
        · exact su _ _ ih
        · exact ih
      · exact ih
/-- The law's own list while it grows, beside an entry's box. -/
structure WJ (W0 : World) (v9 : Value) (M : List (IdK × VaV)) (W : World) : Prop where
  bel : Below W0.heap.size W0 W
  own : RN.Own W W0.heap.size v9 (M.map enP)
theorem WJ.below {W0 W W' : World} {v9 : Value} {M : List (IdK × VaV)} (h : WJ W0 v9 M W) (b : Below W.heap.size W W') : WJ W0 v9 M W' := ⟨h.bel.trans (b.mono h.bel.size), h.own.below b⟩
structure WE (W0 : World) (v9 : Value) (M : List (IdK × VaV)) (eb : Nat) (x : EnV) (W : World) : Prop where
  j : WJ W0 v9 M W
  bx : RN.Bx W eb x
  lo : W0.heap.size ≤ eb
  ne : v9.ownBlock ≠ some eb
theorem WE.below {W0 W W' : World} {v9 : Value} {M : List (IdK × VaV)} {eb : Nat} {x : EnV} (h : WE W0 v9 M eb x W) (b : Below W.heap.size W W') : WE W0 v9 M eb x W' := ⟨h.j.below b, h.bx.below b, h.lo, h.ne⟩
/-- The entry's number is changed. -/
theorem WE.addn {W0 W : World} {v9 : Value} {M : List (IdK × VaV)} {eb : Nat} {x : EnV} (h : WE W0 v9 M eb x W) (hx : x.id.ok) (z : Int) : ∃ W', (Instr.storeAt 2 (.pointer (some ⟨eb, 0 + 33 + 1, none⟩)) (.int .i64 z)).run Tryd.prog W = .ok () W' ∧ WE W0 v9 M eb { x with v := { x.v with n := z } } W' := by
  have hb : W.heap[eb]? = some (.cells x.c.toArray 63 (0, 0)) := h.bx
  have hl := IdK.len hx
  have c0 : W.cell? ⟨eb, 34, none⟩ = some (.int .i64 x.v.n) := by
    rw [cell_of_row W eb 34 _ _ _ hb]
    have : x.c[34]? = some (.int .i64 x.v.n) := by
      show (x.id.c ++ x.v.c)[34]? = _
      rw [List.getElem?_append_right (by rw [hl]; omega), hl]
      rfl
    simpa using this
  have f0 := frozen_of_row W eb 34 _ _ hb
  have t : Tch (fun j => j = eb) W (W.setCell ⟨eb, 34, none⟩ (.int .i64 z)) := ⟨rfl, rfl, rfl, by simp [World.setCell], fun j _ hj => Go.heap_setCell_other _ _ _ _ hj⟩
  refine ⟨W.setCell ⟨eb, 34, none⟩ (.int .i64 z), by go_simp, ⟨h.j.bel.trans (t.below h.j.bel.size (fun j e => by rw [e]; exact h.lo)), h.j.own.keep (fun k hk => t.block k (h.j.own.lt hk) (fun e => h.ne (by rw [← e]; exact hk)))⟩, ?_, h.lo, h.ne⟩
  have hs := Go.heap_setCell_same W eb 34 _ 63 (.int .i64 z) hb
  show (W.setCell ⟨eb, 34, none⟩ (.int .i64 z)).heap[eb]? = _
  rw [hs]
  congr 2
  show (x.id.c ++ x.v.c).toArray.setIfInBounds 34 (.int .i64 z) = _
  rw [List.setIfInBounds_toArray]
  congr 1
  show (x.id.c ++ x.v.c).set 34 _ = x.id.c ++ _
  rw [List.set_append_right _ _ (by rw [hl]; omega), hl]
  rfl
theorem bx_n {W : World} {eb : Nat} {x : EnV} (hb : RN.Bx W eb x) (hx : x.id.ok) : (Instr.loadAt 2 (.pointer (some ⟨eb, 0 + 33 + 1, none⟩))).run Tryd.prog W = .ok (.int .i64 x.v.n) W := by
  have hb' : W.heap[eb]? = some (.cells x.c.toArray 63 (0, 0)) := hb
  have hl := IdK.len hx
  have c0 : W.cell? ⟨eb, 34, none⟩ = some (.int .i64 x.v.n) := by
    rw [cell_of_row W eb 34 _ _ _ hb']
    have : x.c[34]? = some (.int .i64 x.v.n) := by
      show (x.id.c ++ x.v.c)[34]? = _
      rw [List.getElem?_append_right (by rw [hl]; omega), hl]
      rfl
    simpa using this
  go_simp
/-- The entry goes to the list. -/
theorem WE.push {W0 W : World} {v9 : Value} {M : List (IdK × VaV)} {eb : Nat} {q : IdK × VaV} (h : WE W0 v9 M eb (enP q) W) (hx : (enP q).ok) (hn : M.length + 1 ≤ 2500000000000) : ∃ sv w1 u w2, (Instr.buildSlice 60 1 #[(0, (enP q).a)]).run Tryd.prog W = .ok sv w1 ∧ (Builtin.append_ #[60, 60] 60 #[v9, sv]).run Tryd.prog w1 = .ok u w2 ∧ WJ W0 u (M ++ [q]) w2 ∧ ∃ s : SlV, u = s.v := by
  obtain ⟨sv, w1, u, w2, E1, E2, o2, b1, z1, g2, q2⟩ := RowT.run_push RN_is W W0.heap.size v9 (M.map enP) (enP q) h.j.own hx (by rw [List.length_map]; unfold maxLen; omega) (by rw [List.length_map]; show _ * 80 ≤ _; omega) h.j.bel.size
  obtain ⟨oa, oc, eo⟩ := o2.form
  have bel1 : Below W0.heap.size W0 w1 := h.j.bel.trans (b1.mono h.j.bel.size)
  refine ⟨sv, w1, u, w2, E1, E2, ⟨bel1.grown g2 bel1.size (fun k hk => (h.j.own.cells hk).1), ?_⟩, ⟨oa, _, oc⟩, eo⟩
  rw [List.map_append]
  exact o2
/-- A new box of an entry beside the list. -/
theorem WJ.box {W0 W : World} {v9 : Value} {M : List (IdK × VaV)} (h : WJ W0 v9 M W) : ∃ wa, (Instr.alloc 63 true (.tuple #[])).run Tryd.prog W = .ok (.pointer (some ⟨W.heap.size, 0, none⟩)) wa ∧ WJ W0 v9 M wa ∧ WE W0 v9 M W.heap.size zEn wa := by
  obtain ⟨wa, e, n, b⟩ := en_box W
  have hj := h.below b
  exact ⟨wa, e, hj, hj, n, h.bel.size, fun e2 => by have := h.own.lt e2; omega⟩
theorem WE.fill {W0 W : World} {v9 : Value} {M : List (IdK × VaV)} {eb : Nat} (h : WE W0 v9 M eb zEn W) {x : EnV} (hx : x.ok) : ∃ wb, (Instr.storeAt 63 (.pointer (some ⟨eb, 0, none⟩)) x.a).run Tryd.prog W = .ok () wb ∧ WJ W0 v9 M wb ∧ WE W0 v9 M eb x wb := by
  obtain ⟨wb, e, n, t⟩ := en_put zEn_ok hx h.bx
  have hj : WJ W0 v9 M wb := ⟨h.j.bel.trans (t.below h.j.bel.size (fun j e => by rw [e]; exact h.lo)), h.j.own.keep (fun k hk => t.block k (h.j.own.lt hk) (fun e => h.ne (by rw [← e]; exact hk)))⟩
  exact ⟨wb, e, hj, hj, n, h.lo, h.ne⟩
end Go.Proofs.YtldlljobofnmmaaDoor

namespace Go.Proofs.YtldlljobofnmmaaDoor
open Go.RowKit
set_option linter.unusedVariables false
set_option linter.unusedSimpArgs false

/-- What the inner loop holds behind k calls. -/
def InL (Ps : List PlK) (L : List SyR) (p : PlK) (W0 : World) (v9 : Value) (M : List (IdK × VaV)) (eb i k : Nat) (v12 : Value) (W : World) : Prop := v12 = .bool (Rv.tr (syF Ps L) p i k).2 ∧ WE W0 v9 M eb (enP (nmI i, (Rv.tr (syF Ps L) p i k).1)) W
def wnL (Ps : List PlK) (L : List SyR) (p : PlK) (i : Nat) : List (IdK × VaV) := Rv.wn nmI (syF Ps L) p L.length i
theorem wnL_len (Ps : List PlK) (L : List SyR) (p : PlK) (i : Nat) : (wnL Ps L p i).length ≤ i := by
  have := List.length_filterMap_le (Rv.lf nmI (syF Ps L) p L.length) (List.range i)
  rw [List.length_range] at this
  exact this
theorem wnL_no {Ps : List PlK} {L : List SyR} {p : PlK} {i : Nat} (h : ¬ ((syF Ps L i).puts = true ∧ (syF Ps L i).pl = p ∧ (Rv.tr (syF Ps L) p i L.length).2 = false)) : wnL Ps L p (i + 1) = wnL Ps L p i := by
  unfold wnL
  rw [Rv.wn_succ, Rv.lf, if_neg h, List.append_nil]
theorem wnL_yes {Ps : List PlK} {L : List SyR} {p : PlK} {i : Nat} (h : (syF Ps L i).puts = true ∧ (syF Ps L i).pl = p ∧ (Rv.tr (syF Ps L) p i L.length).2 = false) : wnL Ps L p (i + 1) = wnL Ps L p i ++ [(nmI i, (Rv.tr (syF Ps L) p i L.length).1)] := by
  unfold wnL
  rw [Rv.wn_succ, Rv.lf, if_pos h]
theorem sum_eq (x : SyR) (Ps : List PlK) (v : VaV) : (x.s Ps).su v = if v.k = 7 ∧ rightC v = true then { v with n := IntKind.i64.wrap (v.n + x.n) } else v := rfl
set_option maxRecDepth 100000 in
set_option maxHeartbeats 8000000 in
theorem values_all (pa : Option Addr) (pc : Nat) (Ps : List PlK) (a : Option Addr) (c : Nat) (L : List SyR) (w : World) (li : LwI w pa Ps a L) :
    Calls Tryd.prog 7 #[.slice pa Ps.length pc, .slice a L.length c] w fun e w' => e = .returned (.bool true) ∧ Below w.heap.size w w' := by
  have LI := hidMk li
  obtain ⟨n, hnn⟩ : ∃ n, L.length = n := ⟨_, rfl⟩
  obtain ⟨pn, hpn⟩ : ∃ n, Ps.length = n := ⟨_, rfl⟩
  have HN := hidMk (And.intro hnn hpn)
  have hn := li.hLn
  have hpn2 := li.hPn
  have HD : Hid (∀ W B ro i s H, i < n → VS w B ro Ps L i s H W → Calls Tryd.prog 25 #[.pointer (some ⟨ro, 0, none⟩), .slice pa pn pc, .slice a n c, .int .i64 (i : Int)] W fun e w' => ∃ bk, e = .returned (.pointer (some ⟨bk, 0, none⟩)) ∧ ∃ s' H', VS w B ro Ps L (i + 1) s' H' w') := by
    intro W B ro i s H hi h
    rw [← hnn, ← hpn]
    exact h.do li (by omega)
  have HAT : Hid (∀ W, Below w.heap.size w W → ∀ m : Int, -9223372036854775808 ≤ m ∧ m ≤ 9223372036854775807 → Calls Tryd.prog 15 #[.slice pa pn pc, .int .i64 m] W fun e w' => e = .returned (atP Ps m).v ∧ Below W.heap.size W w') := by
    intro W b m hm
    rw [← hpn]
    exact at_any (li.hP.below b) li.okP li.hPn hm
  have HOK := hidMk (fun m => atP_ok li.okP m)
  have HL : Hid (∀ i, i < n → ∃ x, L[i]? = some x ∧ x.ok w ∧ syF Ps L i = x.s Ps ∧ ∃ g o, a = some ⟨g, o, none⟩ ∧ ∀ W, Below w.heap.size w W → W.rangeAt g (o + 8 * i) x.c) := by
    intro i hi
    obtain ⟨x, hx⟩ : ∃ x, L[i]? = some x := ⟨_, List.getElem?_eq_getElem (by omega)⟩
    refine ⟨x, hx, li.okL x (List.mem_of_getElem? hx), syF_at hx, ?_⟩
    rcases li.hL with h | ⟨g, o, e, h1, h2⟩
    · rw [h] at hx; cases hx
    · exact ⟨g, o, e, fun W b => rangeAt_keep (by rw [Nat.mul_comm]; exact h2 i x hx) (b.block _ h1)⟩
  rw [hnn] at hn ⊢
  rw [hpn] at hpn2 ⊢
  clear li hnn hpn
  have HA := hidMk (live_any w)
  have HNEW := hidMk newR_any
  go_enter Tryd.func7, Tryd.ntmps7
  go_wp2_with (first
    | (go_at_call 8; refine HA.out.mono ?_; rintro e w1 ⟨rfl, b1⟩; clear HA)
    | (go_at_call 9; refine (HNEW.out _).mono ?_; rintro e w2 ⟨so, rfl, ra, rl, rp, b2⟩)
    | fail)
  have hj0 : Hid (∃ s H, VS w w1.heap.size so.r Ps L 0 s H w2) := ⟨so, [], ra, rfl, b1.trans (b2.mono b1.size), fun q => by rw [rl]; rfl, b1.size, b2.size⟩
  clear ra rl rp b1 b2 HNEW
  generalize so.r = ro at *
  generalize w1.heap.size = B at *
  go_loopw [6] (fun v6 wr => ∃ i : Nat, v6 = .int .i64 (i : Int) ∧ i ≤ n ∧ Hid (∃ s H, VS w B ro Ps L i s H wr)) (fun v6 wr => n - (match v6 with | .int _ i => i.toNat | _ => 0))
  case atStart => exact ⟨0, rfl, Nat.zero_le _, hj0⟩
  case round =>
    clear hj0
    obtain ⟨i, rfl, hin, HI⟩ := hrel
    by_cases hi : i < n
    · have CD : Hid (Calls Tryd.prog 25 #[.pointer (some ⟨ro, 0, none⟩), .slice pa pn pc, .slice a n c, .int .i64 (i : Int)] wr fun e w' => ∃ bk, e = .returned (.pointer (some ⟨bk, 0, none⟩)) ∧ ∃ s' H', VS w B ro Ps L (i + 1) s' H' w') := by
        obtain ⟨s, H, h⟩ := HI.out
        exact HD.out wr B ro i s H hi h
      clear HI
      go_wp2_with (first
        | (go_at_call 25; refine CD.out.mono ?_; rintro e w3 ⟨bk, rfl, hf⟩; have HF := hidMk hf; clear hf CD)
        | fail)
      rw [show ((i : Int) + 1) = ((i + 1 : Nat) : Int) by omega]
      refine ⟨⟨i + 1, rfl, hi, HF.out⟩, ?_⟩
      show n - ((i + 1 : Nat) : Int).toNat < n - (i : Int).toNat
      omega
    · obtain rfl : i = n := by omega
      clear hin hi HD
      obtain ⟨s, H, hvs⟩ := HI.out
      have HV := hidMk hvs
      clear HI hvs
      go_wp2
      generalize wr = wA at *
      go_loopw [7] (fun v7 wx => ∃ m : Nat, v7 = .int .i64 (m : Int) ∧ m ≤ pn + 1 ∧ Hid (VS w B ro Ps L i s H wx)) (fun v7 wx => pn + 1 - (match v7 with | .int _ i => i.toNat | _ => 0))
      case atStart => exact ⟨0, rfl, Nat.zero_le _, HV⟩
      case round =>
        clear HV
        obtain ⟨m, rfl, hm, HV⟩ := hrel
        by_cases hm2 : m ≤ pn
        · obtain ⟨p, hp0⟩ : ∃ p, atP Ps (m : Int) = p := ⟨_, rfl⟩
          have hp : p.ok := by rw [← hp0]; exact HOK.out _
          have CA : Hid (Calls Tryd.prog 15 #[.slice pa pn pc, .int .i64 (m : Int)] wr fun e w' => e = .returned p.v ∧ ∃ pb w1 w2, (Instr.alloc 52 true (.tuple #[])).run Tryd.prog w' = .ok (.pointer (some ⟨pb, 0, none⟩)) w1 ∧ (Instr.storeAt 52 (.pointer (some ⟨pb, 0, none⟩)) p.v).run Tryd.prog w1 = .ok () w2 ∧ (VS w B ro Ps L i s H w2 ∧ Np pb p w2)) := by
            refine (HAT.out wr HV.out.bel m (by omega)).mono ?_
            rintro e w' ⟨rfl, b⟩
            rw [hp0]
            obtain ⟨w1, w2, e1, e2, n2, b2⟩ := pl_new w' hp
            exact ⟨rfl, w'.heap.size, w1, w2, e1, e2, HV.out.below (b.trans (b2.mono b.size)), n2⟩
          clear hp0 HV
          go_upto_region 12 with fail
          refine val12 (m := m) (pn := pn) (pc := pc) (pa := pa) (p := p) (fun pb w' => VS w B ro Ps L i s H w' ∧ Np pb p w') _ wr _ rfl rfl rfl CA.out ?_
          intro pb a' W0 hf ha
          subst ha
          simp only [Act.put, List.setIfInBounds_toArray, List.set_cons_zero, List.set_cons_succ]
          have H0 := hidMk hf
          have BW : Hid (∀ W, Below W0.heap.size W0 W → Below w.heap.size w W ∧ Np pb p W) := fun W b => ⟨H0.out.1.bel.trans (b.mono H0.out.1.bel.size), H0.out.2.below b⟩
          clear hf CA
          generalize wr = wB at *
          go_wp2
          go_loopw [9, 10] (fun v9 v10 wx => ∃ j : Nat, v10 = .int .i64 (j : Int) ∧ j ≤ i ∧ Hid (∃ sv : SlV, v9 = sv.v ∧ WJ W0 sv.v (wnL Ps L p j) wx)) (fun _ v10 wx => i - (match v10 with | .int _ i => i.toNat | _ => 0))
          case atStart => exact ⟨0, rfl, Nat.zero_le _, ⟨none, 0, 0⟩, rfl, Below.refl _ _, RowT.own_nil RN _ _⟩
          case round =>
            obtain ⟨j, rfl, hj, HI⟩ := hrel
            obtain ⟨sv, rfl, hwj⟩ := HI.out
            have WJ0 := hidMk hwj
            clear HI hwj
            by_cases hj2 : j < i
            · obtain ⟨x, hx, hxo, hsx, g, o, ea, hr⟩ := HL.out j hj2
              subst ea
              have HX := hidMk (fun W (b : Below W0.heap.size W0 W) => hr W (BW.out W b).1)
              have HXO := hidMk (And.intro hxo (And.intro hsx hx))
              have h63 : i ≤ 9223372036854775807 := by omega
              obtain ⟨M, hM⟩ : ∃ M, wnL Ps L p j = M := ⟨_, rfl⟩
              have HM := hidMk hM
              rw [hM] at WJ0
              have NEXT : Hid (∀ (sv' : SlV) W, WJ W0 sv'.v (wnL Ps L p (j + 1)) W → ∃ sv : SlV, sv'.v = sv.v ∧ WJ W0 sv.v (wnL Ps L p (j + 1)) W) := fun sv' W h => ⟨sv', rfl, h⟩
              have wd := hidMk (WJ0.out.below (Below.refl wr.heap.size wr).drew)
              clear hx hxo hsx hr hM
              by_cases hpu : (x.s Ps).puts = true
              · obtain ⟨q, hq0⟩ : ∃ q, atP Ps x.pl = q := ⟨_, rfl⟩
                have hq : q.ok := by rw [← hq0]; exact HOK.out _
                have HQ := hidMk hq0
                have HPU := hidMk hpu
                have CP : Hid (Calls Tryd.prog 26 #[x.a] wr.drew fun e w1 => e = .returned (.bool true) ∧ WJ W0 sv.v M w1 ∧ Calls Tryd.prog 15 #[.slice pa pn pc, .int .i64 x.pl] w1 fun e w' => e = .returned q.v ∧ WJ W0 sv.v M w') := by
                  refine (puts_any wr.drew Ps x).mono ?_
                  rintro e w1 ⟨rfl, b1⟩
                  have h1 := wd.out.below b1
                  refine ⟨by rw [HPU.out], h1, ?_⟩
                  refine (HAT.out w1 (BW.out w1 h1.bel).1 x.pl HXO.out.1.pl).mono ?_
                  rintro e w' ⟨rfl, b⟩
                  exact ⟨by rw [HQ.out], h1.below b⟩
                obtain ⟨r, hrr⟩ : ∃ r, decide (q ≠ p) = r := ⟨_, rfl⟩
                have HR := hidMk hrr
                clear hq0 hpu
                go_upto_region 17 with fail
                refine val17y (g := g) (o := o) (n := i) (c := c) (i := j) (pn := pn) (pc := pc) (pb := pb) (pa := pa) (p := p) (q := q) (x := x) (r := r) (WJ W0 sv.v M) _ wr _ rfl rfl rfl rfl rfl hp hq hrr hj2 h63 wd.out (fun W h => ld_say (HX.out W h.bel)) (fun W h => say_pl (HX.out W h.bel)) (fun W h => ld_pl hp (rng_cells (BW.out W h.bel).2)) CP.out ?_
                intro a' w4 hf ha
                subst ha
                simp only [Act.put, List.setIfInBounds_toArray, List.set_cons_zero, List.set_cons_succ]
                have J4 := hidMk hf
                clear hf CP wd WJ0 hrr
                cases r
                · -- at this place
                  have hqp : Hid (q = p) := hidMk (by have := HR.out; simpa using this)
                  clear HR
                  have jd := J4.out.below (Below.refl w4.heap.size w4).drew
                  have hxv : (EnV.mk (nmI j) x.v).ok := ⟨nmI_ok (by omega), HXO.out.1.v⟩
                  have CA : Hid (Calls Tryd.prog 27 #[.int .i64 (j : Int)] w4.drew fun e w' => ∃ eb wa wb, e = .returned (nmI j).v ∧ WJ W0 sv.v M w' ∧ (Instr.alloc 63 true (.tuple #[])).run Tryd.prog w' = .ok (.pointer (some ⟨eb, 0, none⟩)) wa ∧ WJ W0 sv.v M wa ∧ (Instr.storeAt 63 (.pointer (some ⟨eb, 0, none⟩)) (EnV.a ⟨nmI j, x.v⟩)).run Tryd.prog wa = .ok () wb ∧ WJ W0 sv.v M wb ∧ WE W0 sv.v M eb ⟨nmI j, x.v⟩ wb) := by
                    refine (name_any w4.drew (i := j) (by omega)).mono ?_
                    rintro e w' ⟨rfl, b⟩
                    have h1 := jd.below b
                    obtain ⟨wa, ea, ja, wea⟩ := h1.box
                    obtain ⟨wb, eb, jb, web⟩ := wea.fill hxv
                    exact ⟨w'.heap.size, wa, wb, rfl, h1, ea, ja, eb, jb, web⟩
                  obtain ⟨y1, EB, jy, wey⟩ := jd.box
                  have CB : Hid (Calls Tryd.prog 27 #[.int .i64 (j : Int)] y1 fun e w' => ∃ wb, e = .returned (nmI j).v ∧ WJ W0 sv.v M w' ∧ (Instr.storeAt 63 (.pointer (some ⟨w4.drew.heap.size, 0, none⟩)) (EnV.a ⟨nmI j, x.v⟩)).run Tryd.prog w' = .ok () wb ∧ WJ W0 sv.v M wb ∧ WE W0 sv.v M w4.drew.heap.size ⟨nmI j, x.v⟩ wb) := by
                    refine (name_any y1 (i := j) (by omega)).mono ?_
                    rintro e w' ⟨rfl, b⟩
                    obtain ⟨wb, eb, jb, web⟩ := (wey.below b).fill hxv
                    exact ⟨wb, rfl, jy.below b, eb, jb, web⟩
                  have HEB := hidMk (And.intro EB jy)
                  have JD := hidMk jd
                  have hnm : (nmI j).ok := nmI_ok (by omega)
                  clear EB jy wey jd hxv
                  go_upto_region 18 with fail
                  refine val18 (g := g) (o := o) (n := i) (c := c) (i := j) (eb2 := w4.drew.heap.size) (x := x) (y := nmI j) (y1 := y1) (WJ W0 sv.v M) (fun eb w' => WE W0 sv.v M eb ⟨nmI j, x.v⟩ w') _ w4 _ rfl rfl rfl hj2 h63 hnm JD.out (fun W h => say_va (HX.out W h.bel)) CA.out HEB.out.1 HEB.out.2 CB.out ?_ ?_
                  rotate_left
                  intro a' w5 hf ha
                  obtain ⟨eb, heb⟩ : ∃ eb, w4.drew.heap.size = eb := ⟨_, rfl⟩
                  rw [heb] at hf ha
                  rotate_left
                  intro eb a' w5 hf ha
                  all_goals
                    subst ha
                    simp only [Act.put, List.setIfInBounds_toArray, List.set_cons_zero, List.set_cons_succ]
                    have W5 := hidMk hf
                    clear hf CA CB HEB JD
                    generalize wr = wC at *
                    have I0 : Hid (InL Ps L p W0 sv.v M eb j (j + 1) (.bool false) w5) := by
                      have e : Rv.tr (syF Ps L) p j (j + 1) = (x.v, false) := by
                        rw [Rv.tr_le _ _ _ (Nat.le_refl _), HXO.out.2.1]; rfl
                      exact ⟨by rw [e], by rw [e]; exact W5.out⟩
                    have EOK : Hid (∀ k, (enP (nmI j, (Rv.tr (syF Ps L) p j k).1)).ok) := fun k => enP_ok LI.out.okL LI.out.hLn p (by rw [HN.out.1]; exact hj2) k
                    clear W5
                    go_wp2
                    go_loopw [12, 13] (fun v12 v13 wx => ∃ k : Nat, v13 = .int .i64 (k : Int) ∧ k ≤ i ∧ j < k ∧ Hid (InL Ps L p W0 sv.v M eb j k v12 wx)) (fun _ v13 wx => i - (match v13 with | .int _ i => i.toNat | _ => 0))
                    case atStart => exact ⟨j + 1, by simp, hj2, Nat.lt_succ_self _, I0⟩
                    case round =>
                      clear I0
                      obtain ⟨k, rfl, hki, hjk, HI⟩ := hrel
                      obtain ⟨e12, hwe⟩ := HI.out
                      obtain ⟨t, ht⟩ : ∃ t, Rv.tr (syF Ps L) p j k = t := ⟨_, rfl⟩
                      rw [ht] at e12 hwe
                      subst e12
                      obtain ⟨vv, gn⟩ := t
                      have HT := hidMk ht
                      have HWE : Hid (WE W0 sv.v M eb (enP (nmI j, vv)) wr) := hwe
                      have hvok : Hid (enP (nmI j, vv)).ok := by have := EOK.out k; rw [ht] at this; exact this
                      clear ht hwe HI
                      simp only
                      by_cases hk : k < i
                      · obtain ⟨y, hy, hyo, hsy, g', o', eg, hry⟩ := HL.out k hk
                        have HY := hidMk (fun W (b : Below W0.heap.size W0 W) => (by injection eg with eg; injection eg with e1 e2; rw [e1, e2]; exact hry W (BW.out W b).1 : W.rangeAt g (o + 8 * k) y.c))
                        have HYO := hidMk (And.intro hyo hsy)
                        clear hy hyo hsy eg hry
                        obtain ⟨q2, hq0⟩ : ∃ q, atP Ps y.pl = q := ⟨_, rfl⟩
                        have hq2 : q2.ok := by rw [← hq0]; exact HOK.out _
                        have HQ2 := hidMk hq0
                        have wed := hidMk (HWE.out.below (Below.refl wr.heap.size wr).drew)
                        clear hq0
                        by_cases hqp2 : q2 = p
                        · obtain ⟨r, hrr⟩ : ∃ r, decide ((j : Int) ∈ y.sl) = r := ⟨_, rfl⟩
                          have HR := hidMk hrr
                          have CA : Hid (Calls Tryd.prog 15 #[.slice pa pn pc, .int .i64 y.pl] wr.drew fun e w' => e = .returned q2.v ∧ WE W0 sv.v M eb (enP (nmI j, vv)) w' ∧ Calls Tryd.prog 28 #[y.a, .int .i64 (j : Int)] w' fun e w2 => e = .returned (.bool r) ∧ WE W0 sv.v M eb (enP (nmI j, vv)) w2) := by
                            refine (HAT.out wr.drew (BW.out wr.drew wed.out.j.bel).1 y.pl HYO.out.1.pl).mono ?_
                            rintro e w' ⟨rfl, b⟩
                            have h1 := wed.out.below b
                            refine ⟨by rw [HQ2.out], h1, ?_⟩
                            refine (knows_any (HYO.out.1.below (BW.out w' h1.j.bel).1) (k := j) (by omega)).mono ?_
                            rintro e w2 ⟨rfl, b2⟩
                            exact ⟨by rw [hrr], h1.below b2⟩
                          clear hrr
                          go_upto_region 23 with fail
                          refine val23y (g := g) (o := o) (n := i) (c := c) (i := j) (k := k) (pn := pn) (pc := pc) (pb := pb) (pa := pa) (p := p) (q := q2) (x := y) (r := r) (WE W0 sv.v M eb (enP (nmI j, vv))) _ wr _ rfl rfl rfl rfl rfl rfl hp hq2 hqp2 hk h63 wed.out (fun W h => say_pl (HY.out W h.j.bel)) (fun W h => ld_pl hp (rng_cells (BW.out W h.j.bel).2)) (fun W h => ld_say (HY.out W h.j.bel)) CA.out ?_
                          intro a' w6 hf ha
                          subst ha
                          simp only [Act.put, List.setIfInBounds_toArray, List.set_cons_zero, List.set_cons_succ]
                          have W6 := hidMk hf
                          have HP2 := hidMk hqp2
                          clear hf CA wed HWE hqp2
                          have hpl : Hid ((syF Ps L k).pl = p) := by rw [HYO.out.2]; exact HQ2.out.trans HP2.out
                          have hkn : Hid ((syF Ps L k).kn j = r) := by rw [HYO.out.2]; exact HR.out
                          have hkd : Hid ((syF Ps L k).kd = y.kind) := by rw [HYO.out.2]; rfl
                          cases r
                          · go_wp2
                            rw [show ((k : Int) + 1) = ((k + 1 : Nat) : Int) by omega]
                            refine ⟨⟨k + 1, rfl, hk, by omega, ?_⟩, ?_⟩
                            · have e := Rv.tr_miss (syF Ps L) p hjk (fun h => by rw [hkn.out] at h; cases h.2)
                              rw [HT.out] at e
                              exact ⟨by rw [e], by rw [e]; exact W6.out⟩
                            · show i - ((k + 1 : Nat) : Int).toNat < i - (k : Int).toNat
                              omega
                          · go_upto_region 24 with fail
                            refine val24 (g := g) (o := o) (n := i) (c := c) (k := k) (x := y) _ w6 _ rfl rfl rfl hk h63 (fun W e => by rw [e]; exact say_kind (HY.out w6 W6.out.j.bel)) ?_
                            intro a' w7 hf ha
                            subst ha
                            obtain rfl : w6 = w7 := hf.symm
                            simp only [Act.put, List.setIfInBounds_toArray, List.set_cons_zero, List.set_cons_succ]
                            by_cases hk2 : y.kind = 2
                            · have HK2 := hidMk hk2
                              rw [show (y.kind != 2) = false by rw [hk2]; rfl]
                              clear hk2
                              have e := Rv.tr_add (syF Ps L) p hjk ⟨hpl.out, hkn.out⟩ (by rw [hkd.out]; exact HK2.out)
                              rw [HT.out, HYO.out.2, sum_eq] at e
                              have HE := hidMk e
                              clear e
                              obtain ⟨r2, hr2⟩ : ∃ r, decide (vv.k = 7 ∧ rightC vv = true) = r := ⟨_, rfl⟩
                              have HR2 := hidMk hr2
                              have CC : Hid (Calls Tryd.prog 29 #[vv.v] w6 fun e w' => e = .returned (.bool r2) ∧ WE W0 sv.v M eb (enP (nmI j, vv)) w') := by
                                refine (counter_any hvok.out.w w6).mono ?_
                                rintro e w' ⟨rfl, b⟩
                                exact ⟨by rw [← hr2]; rfl, W6.out.below b⟩
                              have LV := hidMk (en_va (x := enP (nmI j, vv)) hvok.out W6.out.bx.rng)
                              clear hr2
                              go_upto_region 26 with fail
                              refine val26 (eb := eb) (v := vv) (r := r2) (fun w' => WE W0 sv.v M eb (enP (nmI j, vv)) w') _ w6 _ rfl rfl (fun W e => by rw [e]; exact LV.out) CC.out ?_
                              intro a' w8 hf ha
                              subst ha
                              simp only [Act.put, List.setIfInBounds_toArray, List.set_cons_zero, List.set_cons_succ]
                              have W8 := hidMk hf
                              clear hf CC LV W6
                              cases r2
                              · have hno : Hid (¬ (vv.k = 7 ∧ rightC vv = true)) := hidMk (of_decide_eq_false HR2.out)
                                go_wp2
                                rw [show ((k : Int) + 1) = ((k + 1 : Nat) : Int) by omega]
                                refine ⟨⟨k + 1, rfl, hk, by omega, ?_⟩, ?_⟩
                                · have e := HE.out
                                  rw [if_neg hno.out] at e
                                  exact ⟨by rw [e], by rw [e]; exact W8.out⟩
                                · show i - ((k + 1 : Nat) : Int).toNat < i - (k : Int).toNat
                                  omega
                              · have hyes : Hid (vv.k = 7 ∧ rightC vv = true) := hidMk (of_decide_eq_true HR2.out)
                                have w8d := W8.out.below (Below.refl w8.heap.size w8).drew
                                obtain ⟨w9, ES, we9⟩ := w8d.addn hvok.out.i (IntKind.i64.wrap (vv.n + y.n))
                                have HES := hidMk ES
                                have HW9 := hidMk we9
                                have HWD := hidMk w8d
                                clear ES we9 w8d
                                go_upto_region 27 with fail
                                refine val27 (g := g) (o := o) (n := i) (c := c) (k := k) (eb := eb) (m := vv.n) (x := y) (w1 := w9) (WE W0 sv.v M eb (enP (nmI j, vv))) _ w8 _ rfl rfl rfl rfl hk h63 HWD.out (fun W h => bx_n h.bx hvok.out.i) (fun W h => say_n (HY.out W h.j.bel)) HES.out ?_
                                intro a' w10 hf ha
                                subst ha
                                obtain rfl : w9 = w10 := hf.symm
                                simp only [Act.put, List.setIfInBounds_toArray, List.set_cons_zero, List.set_cons_succ]
                                clear HES HWD
                                go_wp2
                                rw [show ((k : Int) + 1) = ((k + 1 : Nat) : Int) by omega]
                                refine ⟨⟨k + 1, rfl, hk, by omega, ?_⟩, ?_⟩
                                · have e := HE.out
                                  rw [if_pos hyes.out] at e
                                  exact ⟨by rw [e], by rw [e]; exact HW9.out⟩
                                · show i - ((k + 1 : Nat) : Int).toNat < i - (k : Int).toNat
                                  omega
                            · have HK2 := hidMk hk2
                              rw [show (y.kind != 2) = true by simpa using hk2]
                              clear hk2
                              go_wp2
                              rw [show ((k : Int) + 1) = ((k + 1 : Nat) : Int) by omega]
                              refine ⟨⟨k + 1, rfl, hk, by omega, ?_⟩, ?_⟩
                              · have e := Rv.tr_gone (syF Ps L) p hjk ⟨hpl.out, hkn.out⟩ (by rw [hkd.out]; exact HK2.out)
                                rw [HT.out] at e
                                exact ⟨by rw [e], by rw [e]; exact W6.out⟩
                              · show i - ((k + 1 : Nat) : Int).toNat < i - (k : Int).toNat
                                omega
                        · have HP2 := hidMk hqp2
                          have CA : Hid (Calls Tryd.prog 15 #[.slice pa pn pc, .int .i64 y.pl] wr.drew fun e w' => e = .returned q2.v ∧ WE W0 sv.v M eb (enP (nmI j, vv)) w') := by
                            refine (HAT.out wr.drew (BW.out wr.drew wed.out.j.bel).1 y.pl HYO.out.1.pl).mono ?_
                            rintro e w' ⟨rfl, b⟩
                            exact ⟨by rw [HQ2.out], wed.out.below b⟩
                          go_upto_region 23 with fail
                          refine val23n (g := g) (o := o) (n := i) (c := c) (i := j) (k := k) (pn := pn) (pc := pc) (pb := pb) (pa := pa) (p := p) (q := q2) (x := y) (WE W0 sv.v M eb (enP (nmI j, vv))) _ wr _ rfl rfl rfl rfl rfl rfl hp hq2 hqp2 hk h63 wed.out (fun W h => say_pl (HY.out W h.j.bel)) (fun W h => ld_pl hp (rng_cells (BW.out W h.j.bel).2)) CA.out ?_
                          intro a' w6 hf ha
                          subst ha
                          simp only [Act.put, List.setIfInBounds_toArray, List.set_cons_zero, List.set_cons_succ]
                          have W6 := hidMk hf
                          clear hf CA wed HWE hqp2
                          go_wp2
                          rw [show ((k : Int) + 1) = ((k + 1 : Nat) : Int) by omega]
                          refine ⟨⟨k + 1, rfl, hk, by omega, ?_⟩, ?_⟩
                          · have e := Rv.tr_miss (syF Ps L) p hjk (fun h => HP2.out (by rw [HYO.out.2] at h; exact HQ2.out.symm.trans h.1))
                            rw [HT.out] at e
                            exact ⟨by rw [e], by rw [e]; exact W6.out⟩
                          · show i - ((k + 1 : Nat) : Int).toNat < i - (k : Int).toNat
                            omega
                      · obtain rfl : k = i := by omega
                        have HPL : Hid ((syF Ps L j).puts = true ∧ (syF Ps L j).pl = p) := by rw [HXO.out.2.1]; exact ⟨HPU.out, HQ.out.trans hqp.out⟩
                        cases gn
                        · have hlm : M.length + 1 ≤ 2500000000000 := by
                            rw [← HM.out]
                            have := wnL_len Ps L p j
                            omega
                          obtain ⟨nv, x1, u, x2, EB, EA, wj2, ns, ens⟩ := HWE.out.push hvok.out hlm
                          subst ens
                          have HEE := hidMk (And.intro EB EA)
                          have HWJ := hidMk wj2
                          have LE := hidMk (ld_en hvok.out HWE.out.bx.rng)
                          clear EB EA wj2
                          go_upto_region 29 with fail
                          refine val29 (eb := eb) (wv := sv.v) (sv := nv) (u := ns.v) (x := enP (nmI j, vv)) (w1 := x1) (w2 := x2) _ wr _ rfl rfl rfl (fun W e => by rw [e]; exact LE.out) HEE.out.1 HEE.out.2 ?_
                          intro a' w10 hf ha
                          subst ha
                          obtain rfl : x2 = w10 := hf.symm
                          simp only [Act.put, List.setIfInBounds_toArray, List.set_cons_zero, List.set_cons_succ]
                          clear HEE LE HWE
                          go_wp2
                          rw [show ((j : Int) + 1) = ((j + 1 : Nat) : Int) by omega]
                          refine ⟨⟨j + 1, rfl, hj2, ns, rfl, ?_⟩, ?_⟩
                          · have e := HT.out
                            rw [← HN.out.1] at e
                            rw [wnL_yes ⟨HPL.out.1, HPL.out.2, by rw [e]⟩, HM.out, e]
                            exact HWJ.out
                          · show k - ((j + 1 : Nat) : Int).toNat < k - (j : Int).toNat
                            omega
                        · go_wp2
                          rw [show ((j : Int) + 1) = ((j + 1 : Nat) : Int) by omega]
                          refine ⟨⟨j + 1, rfl, hj2, sv, rfl, ?_⟩, ?_⟩
                          · have e := HT.out
                            rw [← HN.out.1] at e
                            rw [wnL_no (by rintro ⟨_, _, h3⟩; rw [e] at h3; cases h3), HM.out]
                            exact HWE.out.j
                          · show k - ((j + 1 : Nat) : Int).toNat < k - (j : Int).toNat
                            omega
                · -- elsewhere
                  have hqp : Hid (q ≠ p) := hidMk (by have := HR.out; simpa using this)
                  clear HR
                  go_wp2
                  rw [show ((j : Int) + 1) = ((j + 1 : Nat) : Int) by omega]
                  refine ⟨⟨j + 1, rfl, hj2, sv, rfl, ?_⟩, ?_⟩
                  · rw [wnL_no (by rw [HXO.out.2.1]; rintro ⟨_, h2, _⟩; exact hqp.out (HQ.out.symm.trans h2)), HM.out]
                    exact J4.out
                  · show i - ((j + 1 : Nat) : Int).toNat < i - (j : Int).toNat
                    omega
              · have HPU := hidMk hpu
                have CP : Hid (Calls Tryd.prog 26 #[x.a] wr.drew fun e w1 => e = .returned (.bool false) ∧ WJ W0 sv.v M w1) := by
                  refine (puts_any wr.drew Ps x).mono ?_
                  rintro e w1 ⟨rfl, b1⟩
                  exact ⟨by rw [show (x.s Ps).puts = false by simpa using HPU.out], wd.out.below b1⟩
                clear hpu
                go_upto_region 17 with fail
                refine val17n (g := g) (o := o) (n := i) (c := c) (i := j) (pn := pn) (pc := pc) (pb := pb) (pa := pa) (p := p) (q := p) (x := x) (WJ W0 sv.v M) _ wr _ rfl rfl rfl rfl rfl hj2 h63 wd.out (fun W h => ld_say (HX.out W h.bel)) CP.out ?_
                intro a' w4 hf ha
                subst ha
                simp only [Act.put, List.setIfInBounds_toArray, List.set_cons_zero, List.set_cons_succ]
                have J4 := hidMk hf
                clear hf CP wd WJ0
                go_wp2
                rw [show ((j : Int) + 1) = ((j + 1 : Nat) : Int) by omega]
                refine ⟨⟨j + 1, rfl, hj2, sv, rfl, ?_⟩, ?_⟩
                · rw [wnL_no (by rw [HXO.out.2.1]; rintro ⟨h2, _⟩; exact HPU.out h2), HM.out]
                  exact J4.out
                · show i - ((j + 1 : Nat) : Int).toNat < i - (j : Int).toNat
                  omega
            · obtain rfl : j = i := by omega
              obtain ⟨M, hM⟩ : ∃ M, wnL Ps L p j = M := ⟨_, rfl⟩
              have HLI : Hid (liOf s.P p = M.map enP) := by
                rw [← hM, H0.out.1.li]
                show _ = (Rv.wn nmI (syF Ps L) p L.length j).map enP
                rw [HN.out.1]
                rfl
              have hlen : M.length ≤ j := by rw [← hM]; exact wnL_len _ _ _ _
              rw [hM] at WJ0
              have okM : Hid (∀ x ∈ M.map enP, x.ok) := by
                rw [← HLI.out]
                exact (H0.out.1.ra.mem.list p).2
              obtain ⟨va, vc, ev, hat, _⟩ := WJ0.out.own.open RN_is okM.out
              rw [List.length_map] at ev
              have HAT2 := hidMk hat
              have VW := hidMk (H0.out.1.below WJ0.out.bel)
              have CE : Hid (Calls Tryd.prog 20 #[.pointer (some ⟨ro, 0, none⟩), p.v] wr fun e w1 => ∃ u, e = .returned u ∧ Calls Tryd.prog 30 #[u, sv.v] w1 fun e w' => e = .returned (.bool true) ∧ Below wr.heap.size wr w') := by
                have cc := entries_any VW.out.ra.mem hp (by rw [HLI.out, List.length_map]; omega)
                rw [VW.out.r, HLI.out] at cc
                refine cc.mono ?_
                rintro e w1 ⟨u, rfl, ou, b⟩
                refine ⟨u, rfl, ?_⟩
                obtain ⟨ua, uc, eu, hatu, _⟩ := ou.open RN_is okM.out
                rw [ev, eu]
                have ss := same_entries (w := w1) okM.out (by rw [List.length_map]; omega) (c := uc) (d := vc) hatu (HAT2.out.below b)
                rw [List.length_map] at ss ⊢
                refine ss.mono ?_
                rintro e w' ⟨rfl, b2⟩
                exact ⟨rfl, b.trans (b2.mono b.size)⟩
              have LP := hidMk (ld_pl hp (rng_cells (BW.out wr WJ0.out.bel).2))
              clear hat hM
              go_upto_region 30 with fail
              refine val30 (rb := ro) (pb := pb) (wv := sv.v) (p := p) (fun w' => Below wr.heap.size wr w') _ wr _ rfl rfl rfl rfl (fun W e => by rw [e]; exact LP.out) CE.out ?_
              intro u a' w4 hf ha
              subst ha
              simp only [Act.put, List.setIfInBounds_toArray, List.set_cons_zero, List.set_cons_succ]
              have B4 := hidMk hf
              clear hf CE LP
              obtain ⟨tp, htp⟩ : ∃ tp, (M.map enP).getLast?.getD zEn = tp := ⟨_, rfl⟩
              have htok : Hid tp.ok := by
                rw [← htp]
                cases hl : (M.map enP).getLast? with
                | none => exact zEn_ok
                | some z => exact okM.out z (List.mem_of_getLast? hl)
              have CT : Hid (Calls Tryd.prog 21 #[.pointer (some ⟨ro, 0, none⟩), p.v] w4 fun e w' => e = .returned (.tuple #[tp.a, .bool (!M.isEmpty)]) ∧ ∃ eb w1 w2, (Instr.alloc 63 true (.tuple #[])).run Tryd.prog w' = .ok (.pointer (some ⟨eb, 0, none⟩)) w1 ∧ (Instr.storeAt 63 (.pointer (some ⟨eb, 0, none⟩)) tp.a).run Tryd.prog w1 = .ok () w2 ∧ (Below wr.heap.size wr w2 ∧ RN.Bx w2 eb tp)) := by
                have cc := top_any (VW.out.below B4.out).ra.mem hp (by rw [HLI.out, List.length_map]; omega)
                rw [VW.out.r, HLI.out] at cc
                refine cc.mono ?_
                rintro e w' ⟨rfl, b⟩
                obtain ⟨w1, e1, n1, b1⟩ := en_box w'
                obtain ⟨w2, e2, n2, t2⟩ := en_put zEn_ok htok.out n1
                have b2 : Below w'.heap.size w' w2 := b1.trans (t2.below b1.size (fun j e => by rw [e]; exact Nat.le_refl _))
                have b4' := B4.out.trans (b.mono B4.out.size)
                refine ⟨by rw [htp]; congr 4; cases M <;> rfl, w'.heap.size, w1, w2, e1, e2, b4'.trans (b2.mono b4'.size), n2⟩
              have LP := hidMk (ld_pl hp (rng_cells ((BW.out wr WJ0.out.bel).2.below B4.out)))
              go_upto_region 32 with fail
              refine val32 (rb := ro) (pb := pb) (p := p) (x := tp) (r := !M.isEmpty) (fun eb w' => Below wr.heap.size wr w' ∧ RN.Bx w' eb tp) _ w4 _ rfl rfl rfl (fun W e => by rw [e]; exact LP.out) CT.out ?_
              intro eb a' w5 hf ha
              subst ha
              simp only [Act.put, List.setIfInBounds_toArray, List.set_cons_zero, List.set_cons_succ]
              have B5 := hidMk hf
              clear hf CT LP
              have ENDR : Hid (∀ W, Below wr.heap.size wr W → VS w B ro Ps L j s H W) := fun W b => VW.out.below b
              have h63 : j ≤ 9223372036854775800 := by omega
              rcases List.eq_nil_or_concat M with rfl | ⟨M', z, hMz⟩
              · have ev0 : sv.v = .slice va (0 : Nat) vc := ev
                clear htp
                go_upto_region 33 with fail
                refine val33n (eb := eb) (lc := vc) (la := va) _ w5 _ rfl ev0 rfl rfl ?_
                intro a' w6 hf ha
                subst ha
                simp only [Act.put, List.setIfInBounds_toArray, List.set_cons_zero, List.set_cons_succ]
                have B6 : Hid (Below wr.heap.size wr w6) := by rw [hf]; exact B5.out.1.drew
                clear hf B5 ev ev0
                go_wp2
                rw [show ((m : Int) + 1) = ((m + 1 : Nat) : Int) by omega]
                refine ⟨⟨m + 1, rfl, by omega, ENDR.out w6 B6.out⟩, ?_⟩
                show pn + 1 - ((m + 1 : Nat) : Int).toNat < pn + 1 - (m : Int).toNat
                omega
              · rw [List.concat_eq_append] at hMz
                subst hMz
                have et : tp = enP z := by rw [← htp]; simp
                subst et
                have hzok := htok.out
                have hlen' : M'.length + 1 = (M' ++ [z]).length := by simp
                obtain ⟨g2, o2, rfl, lg2, hr2⟩ : ∃ g o, va = some ⟨g, o, none⟩ ∧ g < wr.heap.size ∧ wr.rangeAt g (o + 37 * M'.length) (enP z).c := by
                  rcases HAT2.out with h | ⟨g, o, e, h1, h2⟩
                  · simp at h
                  · exact ⟨g, o, e, h1, h2 M'.length (enP z) (by simp)⟩
                have RR := hidMk (fun (W : World) (b : Below wr.heap.size wr W) => rangeAt_keep hr2 (b.block _ lg2))
                have CS : Hid (Calls Tryd.prog 22 #[(enP z).v.v, (enP z).v.v] w5.drew fun e w' => e = .returned (.bool true) ∧ (Below wr.heap.size wr w' ∧ RN.Bx w' eb (enP z))) := by
                  refine (same_self hzok.w _).mono ?_
                  rintro e w' ⟨rfl, b⟩
                  have bd := B5.out.1.drew
                  exact ⟨rfl, bd.trans (b.mono bd.size), (B5.out.2.below (Below.refl w5.heap.size w5).drew).below b⟩
                obtain ⟨ln, hln⟩ : ∃ l, (M' ++ [z]).length = l := ⟨_, rfl⟩
                rw [hln] at ev hlen' hlen
                have hemp : (!(M' ++ [z]).isEmpty) = true := by simp
                rw [hemp]
                clear hr2 lg2 hln htp hemp
                go_upto_region 33 with fail
                refine val33y (eb := eb) (g := g2) (o := o2) (n := ln) (lc := vc) (d := M'.length) (x := enP z) (fun W => Below wr.heap.size wr W ∧ RN.Bx W eb (enP z)) _ w5 _ rfl ev rfl rfl hlen' (by omega) hzok.i ⟨B5.out.1.drew, B5.out.2.below (Below.refl w5.heap.size w5).drew⟩ (fun W h => en_id hzok h.2.rng) (fun W h => en_id hzok (RR.out W h.1)) (fun W h => en_va hzok h.2.rng) (fun W h => en_va hzok (RR.out W h.1)) CS.out ?_
                intro a' w6 hf ha
                subst ha
                simp only [Act.put, List.setIfInBounds_toArray, List.set_cons_zero, List.set_cons_succ]
                have B6 := hidMk hf.1
                clear hf B5 ev CS RR hlen'
                go_wp2
                rw [show ((m : Int) + 1) = ((m + 1 : Nat) : Int) by omega]
                refine ⟨⟨m + 1, rfl, by omega, ENDR.out w6 B6.out⟩, ?_⟩
                show pn + 1 - ((m + 1 : Nat) : Int).toNat < pn + 1 - (m : Int).toNat
                omega
        · obtain rfl : m = pn + 1 := by omega
          have BE := hidMk HV.out.bel
          clear HV
          go_wp2
          go_ret
          exact ⟨rfl, BE.out⟩
end Go.Proofs.YtldlljobofnmmaaDoor

