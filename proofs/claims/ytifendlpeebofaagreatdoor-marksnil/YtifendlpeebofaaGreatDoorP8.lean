import Derived.Test.YtifendlpeebofaaGreatDoorP0
import Derived.Test.YtifendlpeebofaaGreatDoorP7
import Derived.Laws.FloatArith
import Derived.Test.YtifendlpeebofaaGreatDoorTie
import Derived.Test.YtifendlpeebofaaGreatDoorCards
import Derived.Lib.LaidU8T
import Derived.Lib.LaidU8
import Derived.LaidMore
import Derived.MakeChecks
import Derived.Lay
import Derived.Lib.SmallJoins
import Derived.Stop.Joined
import Derived.SevenTiedAt
import Derived.SizedLaws
import Derived.Deep.DeepHandedRow
import Derived.JoinedCond
set_option linter.unusedSimpArgs false
set_option linter.unusedVariables false
set_option maxRecDepth 100000
set_option maxHeartbeats 4000000
namespace Go.Proofs.YtifendlpeebofaaGreatDoor
open Go.RowKit
section
variable {w : World} {a : Act} {o : Oper} {x y : Operand}
theorem ex_eqlE {p q : Int} {r : Bool} (ho : o.op = .binOp .eql 43 x y 43) (hx : a.eval x = .int .i64 p) (hy : a.eval y = .int .i64 q) (h : decide (p = q) = r) : (execOp a.eval o).run Tryz.prog w = .ok (.value (.bool r)) w := by
  unfold execOp
  simp only [ho, hx, hy]
  subst h
  by_cases e : p = q <;> go_simp
end
section
open Ieee
end
end Go.Proofs.YtifendlpeebofaaGreatDoor
namespace Go.Proofs.YtifendlpeebofaaGreatDoor
open Go.RowKit Go.Shelf Sq
attribute [local go_sem] Oper.semAt_some
section
variable {W : World} {b : Nat} {x : VaV}
end
section
variable {w : World} {base : Nat} {m : Mx}
end
attribute [local go_sem] Oper.semAt_some
section
variable {w : World} {base : Nat} {m : Mx}
end
theorem Gr.lt {w W : World} {sb mb : Nat} {E : List Elt} {L : List MkV} (h : Gr w sb mb E L W) : L.length ≤ 900000000000 := by
  obtain ⟨⟨s, m, _, _, _, hm, e3, _⟩, _⟩ := h
  rw [← e3]; exact hm.n
section
variable {w W W' : World} {sb mb : Nat} {E : List Elt} {L : List MkV}
theorem Gr.addN (h : Gr w sb mb E L W) (hT : K.V.Tabs W) {x : MkV} (hx : x.ok) (hn : L.length + 1 ≤ 900000000000) : Calls Tryz.prog 12 #[.pointer (some ⟨mb, 0, none⟩), x.id.v, .string x.nm, x.v.v, x.fr.v, x.to.v, .int .i64 x.sd] W fun e w' => e = .returned (.int .i64 (addC L x)) ∧ Gr w sb mb E (addR L x) w' ∧ NT W w' := by
  obtain ⟨⟨s, m, rfl, rfl, hs, hm, rfl, c1, c2, d⟩, b'⟩ := h
  refine (add_any hm b'.size hT hx hn).mono ?_
  rintro e w' ⟨rfl, m', hm', e1, e2, e3, ow, tch⟩
  have tch' : Tch m.bl W w' := tch
  have bb : Below w.heap.size W w' := ⟨tch'.os, tch'.tape, tch'.output, tch'.size, fun j hj => tch'.block j (Nat.lt_of_lt_of_le hj b'.size) (fun q => by have := c2 j q; omega)⟩
  have inb : ∀ j, m'.bl j → m.bl j ∨ W.heap.size ≤ j := fun j hj => by
    rcases hj with q | q | q
    · exact .inl (.inl (q.trans e1))
    · exact .inl (.inr (.inl (q.trans e2)))
    · rcases ow with e | e
      · exact .inl (.inr (.inr (e ▸ q)))
      · exact .inr (e j q)
  refine ⟨rfl, ⟨⟨s, m', rfl, e1, hs.keep (fun j hj => tch'.block j (hs.lt j hj) (d j hj)), hm', e3, c1, fun j hj => ?_, fun j hj hq => ?_⟩, b'.trans bb⟩, fun j c t z hj t1 t2 t3 t4 => tch'.block j (Array.getElem?_eq_some_iff.1 hj).1 (fun q => ?_)⟩
  · rcases inb j hj with q | q
    · exact c2 j q
    · exact Nat.le_trans b'.size q
  · rcases inb j hq with q | q
    · exact d j hj q
    · have := hs.lt j hj; omega
  · rcases q with rfl | rfl | q
    · exact t1 (two_typesM hj hm.cell)
    · obtain ⟨⟨es, cc, hq, _⟩, _⟩ := hm.map
      rw [hj] at hq; cases hq
    · obtain ⟨_, c, hc⟩ := hm.lo.cells q
      exact t2 (two_typesM hj hc)
structure SpW (E : List Elt) (L : List MkV) (v : Value) (b : Nat) (S : List SpV) (W : World) : Prop where
  lo : RSp.Lo W b v S
  is : SpansIs (hE E L) S
  ok : ∀ p ∈ S, p.ok
  len : S.length ≤ 2000000000000
theorem Gr.spans (h : Gr w sb mb E L W) (rt : ∀ x ∈ L, x.v.right = true) (hT : K.V.Tabs W) : Calls Tryz.prog 25 #[.pointer (some ⟨mb, 0, none⟩), .pointer (some ⟨sb, 0, none⟩)] W fun e w' => ∃ v, e = .returned v ∧ (∃ S, SpW E L v W.heap.size S w') ∧ Gr w sb mb E L w' ∧ Below W.heap.size W w' := by
  have hl := h.lt
  have hg := h
  obtain ⟨⟨s, m, rfl, rfl, hs, hm, rfl, c1, c2, d⟩, b'⟩ := h
  refine (Spans_any hs hm rt hT).mono ?_
  rintro e w' ⟨v, rfl, S, lo, is, ok, len, b⟩
  exact ⟨v, rfl, ⟨S, lo, is, fun p hp => (ok p hp).1, Nat.le_trans len (by omega)⟩, hg.below b, b⟩
end
attribute [local go_sem] Oper.semAt_some
end Go.Proofs.YtifendlpeebofaaGreatDoor
namespace Go.Proofs.YtifendlpeebofaaGreatDoor
open Go.ChangeShapes Go.WideShapes Go.ChangeAt Go.RowKit Go.Shelf
def u8_ren : Go.Shelf.Ren := ⟨fun n => n, fun | 119 => 177 | 138 => 179 | 139 => 180 | n => n, fun | 3 => 1 | 4 => 2 | n => n⟩
theorem u8t : U8Types Tryz.prog u8_ren := ⟨Tryz.underlying5, Tryz.underlying177, Tryz.underlying179, Tryz.underlying180⟩
theorem u8x : U8Extra Tryz.prog u8_ren := ⟨by kernel_rfl, by kernel_rfl, by kernel_rfl, by kernel_rfl, by kernel_rfl, by kernel_rfl, by kernel_rfl⟩
theorem dF : (Rows.laid_unicode_utf8_first : DataW Unit) = Lib.firstData := by kernel_rfl
theorem dA : (Rows.laid_unicode_utf8_acceptRanges : DataW Unit) = Lib.acceptData := by kernel_rfl
theorem tabs_of {W : World} {laid : List (String × DataW Unit)} (h : laidMet Tryz.prog laid W) (h3 : ("unicode/utf8.first", (Rows.laid_unicode_utf8_first : DataW Unit)) ∈ laid) (h4 : ("unicode/utf8.acceptRanges", (Rows.laid_unicode_utf8_acceptRanges : DataW Unit)) ∈ laid) : K.V.Tabs W := by
  rw [dF] at h3
  rw [dA] at h4
  exact utf8Tabs_of_readsT u8t u8x (Lib.laidMet.reads h h3) (Lib.laidMet.reads h h4)
end Go.Proofs.YtifendlpeebofaaGreatDoor
namespace Go.Proofs.YtifendlpeebofaaGreatDoor
open Go.RowKit
theorem ex_nnil {w : World} {a : Act} {o : Oper} {x y : Operand} (ho : o.op = .binOp .neq 23 x y 23) (hx : a.eval x = .pointer none) (hy : a.eval y = .pointer none) : (execOp a.eval o).run Tryz.prog w = .ok (.value (.bool false)) w := by
  refine exec_binOp ho hx hy ?_ ?_
  · kernel_rfl
  · go_simp
def cvr5n_o0 : Oper := ⟨some 22, .move (.tmp 1), 23, "tell.go:62", #[], none⟩
def cvr5n_o1 : Oper := ⟨some 23, .call { callee := Callee.value (Operand.func 81), args := #[.tmp 7, .tmp 22], argTypes := #[95, 23] }, 140, "tell.go:62", #[⟨0, .data⟩], none⟩
def cvr5n_o2 : Oper := ⟨some 21, .move (.tmp 23), 140, "tell.go:62", #[⟨1, .data⟩], none⟩
def cvr5n_o3 : Oper := ⟨some 24, .extract (.tmp 21) 0, 3, "tell.go:62", #[⟨2, .data⟩], none⟩
def cvr5n_o4 : Oper := ⟨some 25, .extract (.tmp 21) 1, 3, "tell.go:62", #[⟨2, .data⟩, { on := 5, ground := Ground.gcOnly Departure.lateStores }], none⟩
def cvr5n_o5 : Oper := ⟨some 8, .assign (.tmp 24), 3, "tell.go:62", #[⟨3, .data⟩, ⟨1, .chain⟩, ⟨0, .phase⟩, ⟨1, .phase⟩, ⟨2, .phase⟩, ⟨3, .phase⟩, { on := 4, ground := Ground.textOnly Departure.lateStores }], none⟩
def cvr5n_o6 : Oper := ⟨some 9, .assign (.tmp 25), 3, "tell.go:62", #[⟨4, .data⟩, ⟨5, .chain⟩, ⟨0, .phase⟩, ⟨1, .phase⟩, ⟨2, .phase⟩, ⟨3, .phase⟩, ⟨4, .phase⟩, ⟨5, .phase⟩], none⟩
def cvr5n_ops : Array Oper := #[cvr5n_o0, cvr5n_o1, cvr5n_o2, cvr5n_o3, cvr5n_o4, cvr5n_o5, cvr5n_o6]
theorem cvr5n {sp : Value} {eb : Nat} {f t : Int} (Fin : World → Prop) (a : Act) (w : World) (Q : Exit → Act → World → Prop) (zz : a.tmps.size = 54)
    (t1 : a.tmps.getD 1 undef = sp)
    (t7 : a.tmps.getD 7 undef = .pointer (some ⟨eb, 0, none⟩))
    (CC : Calls Tryz.prog 81 #[.pointer (some ⟨eb, 0, none⟩), sp] w fun e w' => e = .returned (.tuple #[.int .i64 f, .int .i64 t]) ∧ Fin w')
    (h : ∀ (a' : Act) (w' : World), Fin w' → a' = (((((((a).put (some 22) (sp)).put (some 23) (.tuple #[.int .i64 f, .int .i64 t])).put (some 21) (.tuple #[.int .i64 f, .int .i64 t])).put (some 24) (.int .i64 f)).put (some 25) (.int .i64 t)).put (some 8) (.int .i64 f)).put (some 9) (.int .i64 t) → Q .normal a' w') :
    (Code.region 5 cvr5n_ops false).wp Tryz.prog Q a w := by
  refine z0 rfl ?_
  refine zv rfl (xmv rfl (zi t1 rfl)) ?_
  refine zc rfl (exec_c2 rfl (zi t7 rfl) (zg zz rfl)) (CC) (fun e x1 hx => ?_)
  obtain ⟨rfl, HF⟩ := hx
  refine ⟨_, rfl, ?_⟩
  refine zv rfl (xmv rfl (zg zz rfl)) ?_
  refine zv rfl (exec_extract rfl (zg zz rfl) rfl) ?_
  refine zv rfl (exec_extract rfl (zg zz rfl) rfl) ?_
  refine zv rfl (xas rfl (zg zz rfl)) ?_
  refine zv rfl (xas rfl (zg zz rfl)) ?_
  exact ze rfl (h _ _ (HF) rfl)
def cvr6n_o0 : Oper := ⟨some 26, .move (.tmp 1), 23, "tell.go:63", #[], none⟩
def cvr6n_o1 : Oper := ⟨some 27, .move (.tmp 8), 3, "tell.go:63", #[], none⟩
def cvr6n_o2 : Oper := ⟨some 28, .call { callee := Callee.value (Operand.func 55), args := #[.tmp 26, .tmp 27], argTypes := #[23, 3] }, 3, "tell.go:63", #[⟨0, .data⟩, ⟨1, .data⟩], none⟩
def cvr6n_o3 : Oper := ⟨some 29, .move (.tmp 1), 23, "tell.go:63", #[], none⟩
def cvr6n_o4 : Oper := ⟨some 30, .move (.tmp 9), 3, "tell.go:63", #[], none⟩
def cvr6n_o5 : Oper := ⟨some 31, .call { callee := Callee.value (Operand.func 55), args := #[.tmp 29, .tmp 30], argTypes := #[23, 3] }, 3, "tell.go:63", #[⟨3, .data⟩, ⟨4, .data⟩, ⟨2, .chain⟩], none⟩
def cvr6n_o6 : Oper := ⟨some 32, .fieldAddr 95 (.tmp 7) 1, 0, "tell.go:63", #[], none⟩
def cvr6n_o7 : Oper := ⟨some 33, .load 9 (.tmp 32), 9, "tell.go:63", #[⟨6, .data⟩], none⟩
def cvr6n_o8 : Oper := ⟨some 34, .fieldAddr 95 (.tmp 7) 2, 0, "tell.go:63", #[], none⟩
def cvr6n_o9 : Oper := ⟨some 35, .load 40 (.tmp 34), 40, "tell.go:63", #[⟨8, .data⟩], none⟩
def cvr6n_o10 : Oper := ⟨some 36, .build 65 #[(0, .tmp 28), (1, .tmp 31), (2, .tmp 33), (3, .tmp 35)], 65, "tell.go:63", #[⟨2, .data⟩, ⟨5, .data⟩, ⟨7, .data⟩, ⟨9, .data⟩], none⟩
def cvr6n_o11 : Oper := ⟨some 10, .alloc 65, 0, "tell.go:63", #[], none⟩
def cvr6n_o12 : Oper := ⟨none, .store 65 (.tmp 10) (.tmp 36), 0, "tell.go:63", #[⟨11, .data⟩, ⟨10, .data⟩, ⟨5, .chain⟩, ⟨0, .phase⟩, ⟨1, .phase⟩, ⟨2, .phase⟩, ⟨3, .phase⟩, ⟨4, .phase⟩, ⟨5, .phase⟩, ⟨6, .phase⟩, ⟨7, .phase⟩, ⟨8, .phase⟩, ⟨9, .phase⟩, ⟨10, .phase⟩, ⟨11, .phase⟩], none⟩
def cvr6n_ops : Array Oper := #[cvr6n_o0, cvr6n_o1, cvr6n_o2, cvr6n_o3, cvr6n_o4, cvr6n_o5, cvr6n_o6, cvr6n_o7, cvr6n_o8, cvr6n_o9, cvr6n_o10, cvr6n_o11, cvr6n_o12]
theorem cvr6n {sp : Value} {eb : Nat} {f t fi ti : Int} {x : MkV} (S : World → Prop) (B Fin : Nat → World → Prop) (a : Act) (w : World) (Q : Exit → Act → World → Prop) (hsz : a.tmps.size = 54)
    (t1 : a.tmps.getD 1 undef = sp)
    (t7 : a.tmps.getD 7 undef = .pointer (some ⟨eb, 0, none⟩))
    (t8 : a.tmps.getD 8 undef = .int .i64 f)
    (t9 : a.tmps.getD 9 undef = .int .i64 t)
    (h0 : S w.drew) (BS : ∀ pb W, B pb W → S W) (FS : ∀ pb W, Fin pb W → S W) (LN : ∀ W, S W → (Instr.loadAt 9 (.pointer (some ⟨eb, 0 + 33, none⟩))).run Tryz.prog W = .ok (.string x.nm) W) (LV : ∀ W, S W → (Instr.loadAt 40 (.pointer (some ⟨eb, 0 + 34, none⟩))).run Tryz.prog W = .ok (x.v.v) W) (C1 : ∀ W, S W → Calls Tryz.prog 55 #[sp, .int .i64 f] W fun e w1 => e = .returned (.int .i64 fi) ∧ S w1) (C2 : ∀ W, S W → Calls Tryz.prog 55 #[sp, .int .i64 t] W fun e w1 => e = .returned (.int .i64 ti) ∧ S w1) (C1b : ∀ pb W, B pb W → Calls Tryz.prog 55 #[sp, .int .i64 f] W fun e w1 => e = .returned (.int .i64 fi) ∧ B pb w1) (C2b : ∀ pb W, B pb W → Calls Tryz.prog 55 #[sp, .int .i64 t] W fun e w1 => e = .returned (.int .i64 ti) ∧ B pb w1) (EA : ∀ W, S W → ∃ pb w3, (Instr.alloc 65 true (.tuple #[])).run Tryz.prog W = .ok (.pointer (some ⟨pb, 0, none⟩)) w3 ∧ B pb w3) (ES : ∀ pb W, B pb W → ∃ w4, (Instr.storeAt 65 (.pointer (some ⟨pb, 0, none⟩)) (SpV.a ⟨fi, ti, x.nm, x.v⟩)).run Tryz.prog W = .ok () w4 ∧ Fin pb w4)
    (h1 : ∀ (pb : Nat) (a' : Act) (w' : World), Fin pb w' → a' = ((((((((((((a).put (some 26) (sp)).put (some 27) (.int .i64 f)).put (some 29) (sp)).put (some 30) (.int .i64 t)).put (some 32) (.pointer (some ⟨eb, 0 + 33, none⟩))).put (some 33) (.string x.nm)).put (some 34) (.pointer (some ⟨eb, 0 + 34, none⟩))).put (some 35) (x.v.v)).put (some 28) (.int .i64 fi)).put (some 31) (.int .i64 ti)).put (some 36) (SpV.a ⟨fi, ti, x.nm, x.v⟩)).put (some 10) (.pointer (some ⟨pb, 0, none⟩)) → Q .normal a' w')
    (h2 : ∀ (pb : Nat) (a' : Act) (w' : World), Fin pb w' → a' = ((((((((((((a).put (some 26) (sp)).put (some 27) (.int .i64 f)).put (some 29) (sp)).put (some 30) (.int .i64 t)).put (some 32) (.pointer (some ⟨eb, 0 + 33, none⟩))).put (some 33) (.string x.nm)).put (some 34) (.pointer (some ⟨eb, 0 + 34, none⟩))).put (some 35) (x.v.v)).put (some 28) (.int .i64 fi)).put (some 10) (.pointer (some ⟨pb, 0, none⟩))).put (some 31) (.int .i64 ti)).put (some 36) (SpV.a ⟨fi, ti, x.nm, x.v⟩) → Q .normal a' w')
    (h3 : ∀ (pb : Nat) (a' : Act) (w' : World), Fin pb w' → a' = ((((((((((((a).put (some 26) (sp)).put (some 27) (.int .i64 f)).put (some 29) (sp)).put (some 30) (.int .i64 t)).put (some 32) (.pointer (some ⟨eb, 0 + 33, none⟩))).put (some 33) (.string x.nm)).put (some 34) (.pointer (some ⟨eb, 0 + 34, none⟩))).put (some 35) (x.v.v)).put (some 10) (.pointer (some ⟨pb, 0, none⟩))).put (some 28) (.int .i64 fi)).put (some 31) (.int .i64 ti)).put (some 36) (SpV.a ⟨fi, ti, x.nm, x.v⟩) → Q .normal a' w') :
    (Code.region 6 cvr6n_ops true).wp Tryz.prog Q a w := by
  refine wp_region_noPanic ?_
  refine wp_region_held_drew (S := fun w' => S w') (by kernel_rfl) (h0) (fun hHeld => ?_)
  refine wpAnyH_take (i := 0) (oi := cvr6n_o0) (v := sp) rfl (by kernel_rfl) (by kernel_rfl) (by kernel_rfl) (fun _ _ _ h => h) (Or.inl ⟨by rfl, fun w1 hw => xmv rfl t1⟩) hHeld ?_
  change wpAnyH _ _ _ _ _ _ _ (a.put (some 26) (sp)) _
  obtain ⟨a1, e1⟩ : ∃ act, act = a.put (some 26) (sp) := ⟨_, rfl⟩
  rw [← e1] at h1 h2 h3 ⊢
  have z1 := pz e1 hsz
  replace t1 := pk e1 t1
  replace t7 := pk e1 t7
  replace t8 := pk e1 t8
  replace t9 := pk e1 t9
  have t26 := pq e1 hsz
  clear e1 hsz
  refine wpAnyH_take (i := 1) (oi := cvr6n_o1) (v := .int .i64 f) rfl (by kernel_rfl) (by kernel_rfl) (by kernel_rfl) (fun _ _ _ h => h) (Or.inl ⟨by rfl, fun w1 hw => xmv rfl t8⟩) hHeld ?_
  change wpAnyH _ _ _ _ _ _ _ (a1.put (some 27) (.int .i64 f)) _
  obtain ⟨a2, e2⟩ : ∃ act, act = a1.put (some 27) (.int .i64 f) := ⟨_, rfl⟩
  rw [← e2] at h1 h2 h3 ⊢
  have z2 := pz e2 z1
  replace t1 := pk e2 t1
  replace t7 := pk e2 t7
  replace t9 := pk e2 t9
  replace t26 := pk e2 t26
  clear t8
  have t27 := pq e2 z1
  clear e2 z1
  refine wpAnyH_take (i := 3) (oi := cvr6n_o3) (v := sp) rfl (by kernel_rfl) (by kernel_rfl) (by kernel_rfl) (fun _ _ _ h => h) (Or.inl ⟨by rfl, fun w1 hw => xmv rfl t1⟩) hHeld ?_
  change wpAnyH _ _ _ _ _ _ _ (a2.put (some 29) (sp)) _
  obtain ⟨a3, e3⟩ : ∃ act, act = a2.put (some 29) (sp) := ⟨_, rfl⟩
  rw [← e3] at h1 h2 h3 ⊢
  have z3 := pz e3 z2
  replace t7 := pk e3 t7
  replace t9 := pk e3 t9
  replace t26 := pk e3 t26
  replace t27 := pk e3 t27
  clear t1
  have t29 := pq e3 z2
  clear e3 z2
  refine wpAnyH_take (i := 4) (oi := cvr6n_o4) (v := .int .i64 t) rfl (by kernel_rfl) (by kernel_rfl) (by kernel_rfl) (fun _ _ _ h => h) (Or.inl ⟨by rfl, fun w1 hw => xmv rfl t9⟩) hHeld ?_
  change wpAnyH _ _ _ _ _ _ _ (a3.put (some 30) (.int .i64 t)) _
  obtain ⟨a4, e4⟩ : ∃ act, act = a3.put (some 30) (.int .i64 t) := ⟨_, rfl⟩
  rw [← e4] at h1 h2 h3 ⊢
  have z4 := pz e4 z3
  replace t7 := pk e4 t7
  replace t26 := pk e4 t26
  replace t27 := pk e4 t27
  replace t29 := pk e4 t29
  clear t9
  have t30 := pq e4 z3
  clear e4 z3
  refine wpAnyH_take (i := 6) (oi := cvr6n_o6) (v := .pointer (some ⟨eb, 0 + 33, none⟩)) rfl (by kernel_rfl) (by kernel_rfl) (by kernel_rfl) (fun _ _ _ h => h) (Or.inl ⟨by rfl, fun w1 hw => xfa rfl t7 (fg_95_1 _ _ _)⟩) hHeld ?_
  change wpAnyH _ _ _ _ _ _ _ (a4.put (some 32) (.pointer (some ⟨eb, 0 + 33, none⟩))) _
  obtain ⟨a5, e5⟩ : ∃ act, act = a4.put (some 32) (.pointer (some ⟨eb, 0 + 33, none⟩)) := ⟨_, rfl⟩
  rw [← e5] at h1 h2 h3 ⊢
  have z5 := pz e5 z4
  replace t7 := pk e5 t7
  replace t26 := pk e5 t26
  replace t27 := pk e5 t27
  replace t29 := pk e5 t29
  replace t30 := pk e5 t30
  have t32 := pq e5 z4
  clear e5 z4
  refine wpAnyH_take (i := 7) (oi := cvr6n_o7) (v := .string x.nm) rfl (by kernel_rfl) (by kernel_rfl) (by kernel_rfl) (fun _ _ _ h => h) (Or.inl ⟨by rfl, fun w1 hw => xld rfl t32 (LN _ hw)⟩) hHeld ?_
  change wpAnyH _ _ _ _ _ _ _ (a5.put (some 33) (.string x.nm)) _
  obtain ⟨a6, e6⟩ : ∃ act, act = a5.put (some 33) (.string x.nm) := ⟨_, rfl⟩
  rw [← e6] at h1 h2 h3 ⊢
  have z6 := pz e6 z5
  replace t7 := pk e6 t7
  replace t26 := pk e6 t26
  replace t27 := pk e6 t27
  replace t29 := pk e6 t29
  replace t30 := pk e6 t30
  clear t32
  have t33 := pq e6 z5
  clear e6 z5
  refine wpAnyH_take (i := 8) (oi := cvr6n_o8) (v := .pointer (some ⟨eb, 0 + 34, none⟩)) rfl (by kernel_rfl) (by kernel_rfl) (by kernel_rfl) (fun _ _ _ h => h) (Or.inl ⟨by rfl, fun w1 hw => xfa rfl t7 (fg_95_2 _ _ _)⟩) hHeld ?_
  change wpAnyH _ _ _ _ _ _ _ (a6.put (some 34) (.pointer (some ⟨eb, 0 + 34, none⟩))) _
  obtain ⟨a7, e7⟩ : ∃ act, act = a6.put (some 34) (.pointer (some ⟨eb, 0 + 34, none⟩)) := ⟨_, rfl⟩
  rw [← e7] at h1 h2 h3 ⊢
  have z7 := pz e7 z6
  replace t26 := pk e7 t26
  replace t27 := pk e7 t27
  replace t29 := pk e7 t29
  replace t30 := pk e7 t30
  replace t33 := pk e7 t33
  clear t7
  have t34 := pq e7 z6
  clear e7 z6
  refine wpAnyH_take (i := 9) (oi := cvr6n_o9) (v := x.v.v) rfl (by kernel_rfl) (by kernel_rfl) (by kernel_rfl) (fun _ _ _ h => h) (Or.inl ⟨by rfl, fun w1 hw => xld rfl t34 (LV _ hw)⟩) hHeld ?_
  change wpAnyH _ _ _ _ _ _ _ (a7.put (some 35) (x.v.v)) _
  obtain ⟨a8, e8⟩ : ∃ act, act = a7.put (some 35) (x.v.v) := ⟨_, rfl⟩
  rw [← e8] at h1 h2 h3 ⊢
  have z8 := pz e8 z7
  replace t26 := pk e8 t26
  replace t27 := pk e8 t27
  replace t29 := pk e8 t29
  replace t30 := pk e8 t30
  replace t33 := pk e8 t33
  clear t34
  have t35 := pq e8 z7
  clear e8 z7
  refine wpAnyH_ready (rs := [2, 11]) (by kernel_rfl) (by simp) ?_
  refine AllReadyH.cons (o := cvr6n_o2) rfl (fun K hK => ?_) (AllReadyH.cons (o := cvr6n_o11) rfl (fun K hK => ?_) (AllReadyH.nil))
  · clear h3
    rw [if_pos (by rfl)]
    unfold cvr6n_o2 at hK ⊢
    go_simp
    refine (C1 _ hHeld).mono ?_
    rintro e x9 ⟨rfl, S1⟩
    try go_wp2_with fail
    skip
    refine hK.out _ _ (S1) (fun hHeld => ?_)
    clear hK K
    change wpAnyH _ _ _ _ _ _ _ (a8.put (some 28) (.int .i64 fi)) _
    obtain ⟨a9, e9⟩ : ∃ act, act = a8.put (some 28) (.int .i64 fi) := ⟨_, rfl⟩
    rw [← e9] at h1 h2 ⊢
    have z9 := pz e9 z8
    replace t29 := pk e9 t29
    replace t30 := pk e9 t30
    replace t33 := pk e9 t33
    replace t35 := pk e9 t35
    clear t26 t27
    have t28 := pq e9 z8
    clear e9 z8
    refine wpAnyH_ready (rs := [5, 11]) (by kernel_rfl) (by simp) ?_
    refine AllReadyH.cons (o := cvr6n_o5) rfl (fun K hK => ?_) (AllReadyH.cons (o := cvr6n_o11) rfl (fun K hK => ?_) (AllReadyH.nil))
    · clear h2
      rw [if_pos (by rfl)]
      unfold cvr6n_o5 at hK ⊢
      go_simp
      refine (C2 _ hHeld).mono ?_
      rintro e x10 ⟨rfl, S1⟩
      try go_wp2_with fail
      skip
      refine hK.out _ _ (S1) (fun hHeld => ?_)
      clear hK K
      change wpAnyH _ _ _ _ _ _ _ (a9.put (some 31) (.int .i64 ti)) _
      obtain ⟨a10, e10⟩ : ∃ act, act = a9.put (some 31) (.int .i64 ti) := ⟨_, rfl⟩
      rw [← e10] at h1 ⊢
      have z10 := pz e10 z9
      replace t33 := pk e10 t33
      replace t35 := pk e10 t35
      replace t28 := pk e10 t28
      clear t29 t30
      have t31 := pq e10 z9
      clear e10 z9
      refine wpAnyH_take (i := 10) (oi := cvr6n_o10) (v := SpV.a ⟨fi, ti, x.nm, x.v⟩) rfl (by kernel_rfl) (by kernel_rfl) (by kernel_rfl) (fun _ _ _ h => h) (Or.inl ⟨by rfl, fun w1 hw => exec_build4 rfl t28 t31 t33 t35 (build_span _ _ _ _ _)⟩) hHeld ?_
      change wpAnyH _ _ _ _ _ _ _ (a10.put (some 36) (SpV.a ⟨fi, ti, x.nm, x.v⟩)) _
      obtain ⟨a11, e11⟩ : ∃ act, act = a10.put (some 36) (SpV.a ⟨fi, ti, x.nm, x.v⟩) := ⟨_, rfl⟩
      rw [← e11] at h1 ⊢
      have z11 := pz e11 z10
      clear t33 t35 t28 t31
      have t36 := pq e11 z10
      clear e11 z10
      refine wpAnyH_ready (rs := [11]) (by kernel_rfl) (by simp) ?_
      refine AllReadyH.cons (o := cvr6n_o11) rfl (fun K hK => ?_) AllReadyH.nil
      obtain ⟨pb, wa, EA1, HB⟩ := EA _ hHeld; replace h1 := h1 pb
      have X := exec_alloc (P := Tryz.prog) (a := a11) (o := cvr6n_o11) rfl EA1
      rw [if_pos (by rfl), Oper.wp, X]
      show K _ _
      clear X
      refine hK.out _ _ (BS _ _ HB) (fun hHeld => ?_)
      clear hK K
      change wpAnyH _ _ _ _ _ _ _ (a11.put (some 10) (.pointer (some ⟨pb, 0, none⟩))) _
      obtain ⟨a12, e12⟩ : ∃ act, act = a11.put (some 10) (.pointer (some ⟨pb, 0, none⟩)) := ⟨_, rfl⟩
      rw [← e12] at h1 ⊢
      have z12 := pz e12 z11
      replace t36 := pk e12 t36
      have t10 := pq e12 z11
      clear e12 z11
      refine wpAnyH_ready (rs := [12]) (by kernel_rfl) (by simp) ?_
      refine AllReadyH.cons (o := cvr6n_o12) rfl (fun K hK => ?_) AllReadyH.nil
      obtain ⟨w9, ES1, HF⟩ := ES _ _ HB
      have X := exec_store (P := Tryz.prog) (a := a12) (o := cvr6n_o12) rfl t10 t36 ES1
      rw [if_pos (by rfl), Oper.wp, X]
      show K _ _
      clear X
      refine hK.out _ _ (FS _ _ HF) (fun hHeld => ?_)
      clear hK K
      exact wpAnyH_done (by kernel_rfl) (NoPanic.normal (h1 _ _ (HF) rfl)) _
    · clear h1
      obtain ⟨pb, wa, EA1, HB⟩ := EA _ hHeld; replace h2 := h2 pb
      have X := exec_alloc (P := Tryz.prog) (a := a9) (o := cvr6n_o11) rfl EA1
      rw [if_pos (by rfl), Oper.wp, X]
      show K _ _
      clear X
      refine hK.out _ _ (BS _ _ HB) (fun hHeld => ?_)
      clear hK K
      change wpAnyH _ _ _ _ _ _ _ (a9.put (some 10) (.pointer (some ⟨pb, 0, none⟩))) _
      obtain ⟨a14, e14⟩ : ∃ act, act = a9.put (some 10) (.pointer (some ⟨pb, 0, none⟩)) := ⟨_, rfl⟩
      rw [← e14] at h2 ⊢
      have z14 := pz e14 z9
      replace t29 := pk e14 t29
      replace t30 := pk e14 t30
      replace t33 := pk e14 t33
      replace t35 := pk e14 t35
      replace t28 := pk e14 t28
      have t10 := pq e14 z9
      clear e14 z9
      refine wpAnyH_ready (rs := [5]) (by kernel_rfl) (by simp) ?_
      refine AllReadyH.cons (o := cvr6n_o5) rfl (fun K hK => ?_) AllReadyH.nil
      rw [if_pos (by rfl)]
      unfold cvr6n_o5 at hK ⊢
      go_simp
      refine (C2b _ _ HB).mono ?_
      rintro e x15 ⟨rfl, HB⟩
      try go_wp2_with fail
      skip
      refine hK.out _ _ (BS _ _ HB) (fun hHeld => ?_)
      clear hK K
      change wpAnyH _ _ _ _ _ _ _ (a14.put (some 31) (.int .i64 ti)) _
      obtain ⟨a15, e15⟩ : ∃ act, act = a14.put (some 31) (.int .i64 ti) := ⟨_, rfl⟩
      rw [← e15] at h2 ⊢
      have z15 := pz e15 z14
      replace t33 := pk e15 t33
      replace t35 := pk e15 t35
      replace t28 := pk e15 t28
      replace t10 := pk e15 t10
      clear t29 t30
      have t31 := pq e15 z14
      clear e15 z14
      refine wpAnyH_take (i := 10) (oi := cvr6n_o10) (v := SpV.a ⟨fi, ti, x.nm, x.v⟩) rfl (by kernel_rfl) (by kernel_rfl) (by kernel_rfl) (fun _ _ _ h => h) (Or.inl ⟨by rfl, fun w1 hw => exec_build4 rfl t28 t31 t33 t35 (build_span _ _ _ _ _)⟩) hHeld ?_
      change wpAnyH _ _ _ _ _ _ _ (a15.put (some 36) (SpV.a ⟨fi, ti, x.nm, x.v⟩)) _
      obtain ⟨a16, e16⟩ : ∃ act, act = a15.put (some 36) (SpV.a ⟨fi, ti, x.nm, x.v⟩) := ⟨_, rfl⟩
      rw [← e16] at h2 ⊢
      have z16 := pz e16 z15
      replace t10 := pk e16 t10
      clear t33 t35 t28 t31
      have t36 := pq e16 z15
      clear e16 z15
      refine wpAnyH_ready (rs := [12]) (by kernel_rfl) (by simp) ?_
      refine AllReadyH.cons (o := cvr6n_o12) rfl (fun K hK => ?_) AllReadyH.nil
      obtain ⟨w9, ES1, HF⟩ := ES _ _ HB
      have X := exec_store (P := Tryz.prog) (a := a16) (o := cvr6n_o12) rfl t10 t36 ES1
      rw [if_pos (by rfl), Oper.wp, X]
      show K _ _
      clear X
      refine hK.out _ _ (FS _ _ HF) (fun hHeld => ?_)
      clear hK K
      exact wpAnyH_done (by kernel_rfl) (NoPanic.normal (h2 _ _ (HF) rfl)) _
  · clear h1 h2
    obtain ⟨pb, wa, EA1, HB⟩ := EA _ hHeld; replace h3 := h3 pb
    have X := exec_alloc (P := Tryz.prog) (a := a8) (o := cvr6n_o11) rfl EA1
    rw [if_pos (by rfl), Oper.wp, X]
    show K _ _
    clear X
    refine hK.out _ _ (BS _ _ HB) (fun hHeld => ?_)
    clear hK K
    change wpAnyH _ _ _ _ _ _ _ (a8.put (some 10) (.pointer (some ⟨pb, 0, none⟩))) _
    obtain ⟨a18, e18⟩ : ∃ act, act = a8.put (some 10) (.pointer (some ⟨pb, 0, none⟩)) := ⟨_, rfl⟩
    rw [← e18] at h3 ⊢
    have z18 := pz e18 z8
    replace t26 := pk e18 t26
    replace t27 := pk e18 t27
    replace t29 := pk e18 t29
    replace t30 := pk e18 t30
    replace t33 := pk e18 t33
    replace t35 := pk e18 t35
    have t10 := pq e18 z8
    clear e18 z8
    refine wpAnyH_ready (rs := [2]) (by kernel_rfl) (by simp) ?_
    refine AllReadyH.cons (o := cvr6n_o2) rfl (fun K hK => ?_) AllReadyH.nil
    rw [if_pos (by rfl)]
    unfold cvr6n_o2 at hK ⊢
    go_simp
    refine (C1b _ _ HB).mono ?_
    rintro e x19 ⟨rfl, HB⟩
    try go_wp2_with fail
    skip
    refine hK.out _ _ (BS _ _ HB) (fun hHeld => ?_)
    clear hK K
    change wpAnyH _ _ _ _ _ _ _ (a18.put (some 28) (.int .i64 fi)) _
    obtain ⟨a19, e19⟩ : ∃ act, act = a18.put (some 28) (.int .i64 fi) := ⟨_, rfl⟩
    rw [← e19] at h3 ⊢
    have z19 := pz e19 z18
    replace t29 := pk e19 t29
    replace t30 := pk e19 t30
    replace t33 := pk e19 t33
    replace t35 := pk e19 t35
    replace t10 := pk e19 t10
    clear t26 t27
    have t28 := pq e19 z18
    clear e19 z18
    refine wpAnyH_ready (rs := [5]) (by kernel_rfl) (by simp) ?_
    refine AllReadyH.cons (o := cvr6n_o5) rfl (fun K hK => ?_) AllReadyH.nil
    rw [if_pos (by rfl)]
    unfold cvr6n_o5 at hK ⊢
    go_simp
    refine (C2b _ _ HB).mono ?_
    rintro e x20 ⟨rfl, HB⟩
    try go_wp2_with fail
    skip
    refine hK.out _ _ (BS _ _ HB) (fun hHeld => ?_)
    clear hK K
    change wpAnyH _ _ _ _ _ _ _ (a19.put (some 31) (.int .i64 ti)) _
    obtain ⟨a20, e20⟩ : ∃ act, act = a19.put (some 31) (.int .i64 ti) := ⟨_, rfl⟩
    rw [← e20] at h3 ⊢
    have z20 := pz e20 z19
    replace t33 := pk e20 t33
    replace t35 := pk e20 t35
    replace t10 := pk e20 t10
    replace t28 := pk e20 t28
    clear t29 t30
    have t31 := pq e20 z19
    clear e20 z19
    refine wpAnyH_take (i := 10) (oi := cvr6n_o10) (v := SpV.a ⟨fi, ti, x.nm, x.v⟩) rfl (by kernel_rfl) (by kernel_rfl) (by kernel_rfl) (fun _ _ _ h => h) (Or.inl ⟨by rfl, fun w1 hw => exec_build4 rfl t28 t31 t33 t35 (build_span _ _ _ _ _)⟩) hHeld ?_
    change wpAnyH _ _ _ _ _ _ _ (a20.put (some 36) (SpV.a ⟨fi, ti, x.nm, x.v⟩)) _
    obtain ⟨a21, e21⟩ : ∃ act, act = a20.put (some 36) (SpV.a ⟨fi, ti, x.nm, x.v⟩) := ⟨_, rfl⟩
    rw [← e21] at h3 ⊢
    have z21 := pz e21 z20
    replace t10 := pk e21 t10
    clear t33 t35 t28 t31
    have t36 := pq e21 z20
    clear e21 z20
    refine wpAnyH_ready (rs := [12]) (by kernel_rfl) (by simp) ?_
    refine AllReadyH.cons (o := cvr6n_o12) rfl (fun K hK => ?_) AllReadyH.nil
    obtain ⟨w9, ES1, HF⟩ := ES _ _ HB
    have X := exec_store (P := Tryz.prog) (a := a21) (o := cvr6n_o12) rfl t10 t36 ES1
    rw [if_pos (by rfl), Oper.wp, X]
    show K _ _
    clear X
    refine hK.out _ _ (FS _ _ HF) (fun hHeld => ?_)
    clear hK K
    exact wpAnyH_done (by kernel_rfl) (NoPanic.normal (h3 _ _ (HF) rfl)) _
def spn4n_o0 : Oper := ⟨some 10, .move (.tmp 0), 27, "tell.go:51", #[], none⟩
def spn4n_o1 : Oper := ⟨some 11, .move (.tmp 1), 23, "tell.go:51", #[], none⟩
def spn4n_o2 : Oper := ⟨some 12, .call { callee := Callee.value (Operand.func 63), args := #[.tmp 10, .tmp 11], argTypes := #[27, 23] }, 117, "tell.go:51", #[⟨0, .data⟩, ⟨1, .data⟩], none⟩
def spn4n_o3 : Oper := ⟨some 13, .range 117 (.tmp 12), 0, "tell.go:51", #[⟨2, .data⟩], none⟩
def spn4n_ops : Array Oper := #[spn4n_o0, spn4n_o1, spn4n_o2, spn4n_o3]
theorem spn4n {sp : Value} {mb : Nat} (Fin : Nat → Nat → World → Prop) (a : Act) (w : World) (Q : Exit → Act → World → Prop) (zz : a.tmps.size = 25)
    (t0 : a.tmps.getD 0 undef = .pointer (some ⟨mb, 0, none⟩))
    (t1 : a.tmps.getD 1 undef = sp)
    (CC : Calls Tryz.prog 63 #[.pointer (some ⟨mb, 0, none⟩), sp] w fun e w1 => ∃ fm, e = .returned (.map (some fm)) ∧ ∃ rb w2, (Instr.range 117 (.map (some fm))).run Tryz.prog w1 = .ok (.pointer (some ⟨rb, 0, none⟩)) w2 ∧ Fin fm rb w2)
    (h : ∀ (fm rb : Nat) (a' : Act) (w' : World), Fin fm rb w' → a' = ((((a).put (some 10) (.pointer (some ⟨mb, 0, none⟩))).put (some 11) (sp)).put (some 12) (.map (some fm))).put (some 13) (.pointer (some ⟨rb, 0, none⟩)) → Q .normal a' w') :
    (Code.region 4 spn4n_ops false).wp Tryz.prog Q a w := by
  refine z0 rfl ?_
  refine zv rfl (xmv rfl (zi t0 rfl)) ?_
  refine zv rfl (xmv rfl (zi t1 rfl)) ?_
  refine zc rfl (exec_c2 rfl (zg zz rfl) (zg zz rfl)) (CC) (fun e x2 hx => ?_)
  obtain ⟨fm, rfl, rb, w2, ER, HF⟩ := hx
  replace h := h fm rb
  refine ⟨_, rfl, ?_⟩
  refine zv (v := .pointer (some ⟨rb, 0, none⟩)) rfl (exec_rangeM rfl (zg zz rfl) ER) ?_
  exact ze rfl (h _ _ (HF) rfl)
def hasn1_o0 : Oper := ⟨some 5, .move (.tmp 0), 23, "seq.go:135", #[], none⟩
def hasn1_o1 : Oper := ⟨some 6, .binOp BinOp.neq 23 (.tmp 5) (Operand.const (Value.pointer none)) 23, 4, "seq.go:135", #[⟨0, .data⟩], none⟩
def hasn1_o2 : Oper := ⟨some 7, .move (.tmp 6), 4, "seq.go:135", #[⟨1, .data⟩], none⟩
def hasn1_o3 : Oper := ⟨some 8, .move (.tmp 0), 23, "seq.go:135", #[⟨2, .guard⟩], some (2, true)⟩
def hasn1_o4 : Oper := ⟨some 9, .nilCheck (.tmp 8), 0, "seq.go:135", #[⟨3, .data⟩, ⟨2, .guard⟩], some (2, true)⟩
def hasn1_o5 : Oper := ⟨some 10, .fieldAddr 80 (.tmp 9) 0, 0, "seq.go:135", #[⟨4, .data⟩, ⟨2, .guard⟩], some (2, true)⟩
def hasn1_o6 : Oper := ⟨some 11, .load 72 (.tmp 10), 72, "seq.go:135", #[⟨5, .data⟩, ⟨2, .guard⟩], some (2, true)⟩
def hasn1_o7 : Oper := ⟨some 12, .load 36 (.tmp 3), 36, "seq.go:135", #[⟨2, .guard⟩], some (2, true)⟩
def hasn1_o8 : Oper := ⟨some 13, .lookup 72 (.tmp 11) (.tmp 12) false, 3, "seq.go:135", #[⟨6, .data⟩, ⟨7, .data⟩, ⟨2, .guard⟩], some (2, true)⟩
def hasn1_o9 : Oper := ⟨some 14, .binOp BinOp.neq 3 (.tmp 13) (Operand.const (Value.int IntKind.i64 0)) 3, 4, "seq.go:135", #[⟨8, .data⟩, ⟨2, .guard⟩], some (2, true)⟩
def hasn1_o10 : Oper := ⟨some 15, .pick (.tmp 7) (.tmp 14) (Operand.const (Value.bool false)), 4, "seq.go:135", #[⟨2, .data⟩, ⟨9, .data⟩], none⟩
def hasn1_o11 : Oper := ⟨some 4, .assign (.tmp 15), 4, "seq.go:135", #[⟨10, .data⟩, ⟨2, .chain⟩, ⟨0, .phase⟩, ⟨1, .phase⟩, ⟨2, .phase⟩, ⟨3, .phase⟩, ⟨4, .phase⟩, ⟨5, .phase⟩, ⟨6, .phase⟩, ⟨7, .phase⟩, ⟨8, .phase⟩, ⟨9, .phase⟩, ⟨10, .phase⟩], none⟩
def hasn1_ops : Array Oper := #[hasn1_o0, hasn1_o1, hasn1_o2, hasn1_o3, hasn1_o4, hasn1_o5, hasn1_o6, hasn1_o7, hasn1_o8, hasn1_o9, hasn1_o10, hasn1_o11]
theorem hasn1  (a : Act) (w : World) (Q : Exit → Act → World → Prop) (zz : a.tmps.size = 16)
    (t0 : a.tmps.getD 0 undef = .pointer none)
    (h : ∀ (a' : Act) (w' : World), w' = w.drew → a' = ((((((((((((a).put (some 5) (.pointer none)).put (some 6) (.bool false)).put (some 7) (.bool false)).put (some 8) (undef)).put (some 9) (undef)).put (some 10) (undef)).put (some 11) (undef)).put (some 12) (undef)).put (some 13) (undef)).put (some 14) (undef)).put (some 15) (.bool false)).put (some 4) (.bool false) → Q .normal a' w') :
    (Code.region 1 hasn1_ops true).wp Tryz.prog Q a w := by
  refine y0 (fun w' => w' = w.drew) (rfl) (fun hHeld => ?_)
  refine yv 0 rfl rfl (fun w1 hw => xmv rfl (zi t0 rfl)) hHeld ?_
  refine yv (v := .bool false) 1 rfl rfl (fun w1 hw => ex_nnil rfl (zg zz rfl) rfl) hHeld ?_
  refine yv 2 rfl rfl (fun w1 hw => xmv rfl (zg zz rfl)) hHeld ?_
  refine yn 3 rfl (zx zz rfl rfl rfl (zg zz rfl)) hHeld ?_
  refine yn 4 rfl (zx zz rfl rfl rfl (zg zz rfl)) hHeld ?_
  refine yn 5 rfl (zx zz rfl rfl rfl (zg zz rfl)) hHeld ?_
  refine yn 6 rfl (zx zz rfl rfl rfl (zg zz rfl)) hHeld ?_
  refine yn 7 rfl (zx zz rfl rfl rfl (zg zz rfl)) hHeld ?_
  refine yn 8 rfl (zx zz rfl rfl rfl (zg zz rfl)) hHeld ?_
  refine yn 9 rfl (zx zz rfl rfl rfl (zg zz rfl)) hHeld ?_
  refine yv 10 rfl rfl (fun w1 hw => exec_pickF rfl (zg zz rfl) rfl) hHeld ?_
  refine yv 11 rfl rfl (fun w1 hw => xas rfl (zg zz rfl)) hHeld ?_
  exact ye rfl (h _ _ (hHeld) rfl)
def finn2_o0 : Oper := ⟨some 11, .build 36 #[], 36, "seq.go:175", #[], none⟩
def finn2_o1 : Oper := ⟨none, .store 36 (.tmp 6) (.tmp 11), 0, "seq.go:175", #[⟨0, .data⟩, ⟨0, .phase⟩], none⟩
def finn2_o2 : Oper := ⟨some 7, .assign (Operand.const (Value.bool false)), 4, "seq.go:175", #[⟨1, .chain⟩, ⟨0, .phase⟩, ⟨1, .phase⟩], none⟩
def finn2_ops : Array Oper := #[finn2_o0, finn2_o1, finn2_o2]
theorem finn2 {rb : Nat} {w2 : World} (a : Act) (w : World) (Q : Exit → Act → World → Prop) (zz : a.tmps.size = 27)
    (t6 : a.tmps.getD 6 undef = .pointer (some ⟨rb, 0, none⟩))
    (E1 : (Instr.storeAt 36 (.pointer (some ⟨rb, 0, none⟩)) zId.v).run Tryz.prog w = .ok () w2)
    (h : ∀ (a' : Act) (w' : World), w' = w2 → a' = ((a).put (some 11) (zId.v)).put (some 7) (.bool false) → Q .normal a' w') :
    (Code.region 2 finn2_ops false).wp Tryz.prog Q a w := by
  refine z0 rfl ?_
  refine zv rfl (exec_build0 rfl (build_id _)) ?_
  refine zs rfl (exec_store rfl (zi t6 rfl) (zg zz rfl) E1) ?_
  refine zv rfl (xas rfl rfl) ?_
  exact ze rfl (h _ _ (rfl) rfl)
end Go.Proofs.YtifendlpeebofaaGreatDoor
namespace Go.Proofs.YtifendlpeebofaaGreatDoor
open Go.RowKit Go.Shelf Sq
attribute [local go_sem] Oper.semAt_some
theorem pnil_has (w : World) (k : IdK) : Calls Tryz.prog 47 #[.pointer none, k.v] w fun e w' => e = .returned (.bool false) ∧ Below w.heap.size w w' := by
  have bx : Below w.heap.size w (w.alloc (.cells k.c.toArray 36)) := (Below.refl _ _).alloc (Nat.le_refl _) _
  show Calls Tryz.prog 47 #[.pointer none, .agg k.c.toArray] w _
  go_enter Tryz.func47, Tryz.ntmps47
  go_upto_region 1 with fail
  generalize w.alloc (.cells k.c.toArray 36) = wx at *
  refine hasn1 _ _ _ rfl rfl ?_
  intro a' w1 hw ha
  subst ha
  obtain rfl : w1 = wx.drew := hw
  simp only [Act.put, List.setIfInBounds_toArray, List.set_cons_zero, List.set_cons_succ]
  have b2 : Below w.heap.size w wx.drew := bx.drew
  generalize wx.drew = w2 at *
  go_wp2
  go_ret
  exact ⟨rfl, b2⟩
theorem pnil_len (w : World) : Calls Tryz.prog 103 #[.pointer none] w fun e w' => e = .returned (.int .i64 0) ∧ Below w.heap.size w w' := by
  have HM : Hid (Calls Tryz.prog 100 #[.pointer none, .int .i64 0] w fun e w' => e = .returned (.int .i64 0) ∧ Below w.heap.size w w') := by
    show Calls Tryz.prog 100 #[.pointer none, .int .i64 0] w _
    go_enter Tryz.func100, Tryz.ntmps100
    go_wp2
    go_ret
    exact ⟨rfl, Below.refl _ _⟩
  go_enter Tryz.func103, Tryz.ntmps103
  go_wp2_with (first
    | (go_at_call 100; refine HM.out.mono ?_; rintro e w1 ⟨rfl, b1⟩)
    | fail)
  go_ret
  exact ⟨rfl, b1⟩
theorem pnil_shown (w : World) : Calls Tryz.prog 79 #[.pointer none] w fun e w' => e = .returned (.int .i64 0) ∧ Below w.heap.size w w' := by
  have HM : Hid (Calls Tryz.prog 100 #[.pointer none, .int .i64 1] w fun e w' => e = .returned (.int .i64 0) ∧ Below w.heap.size w w') := by
    show Calls Tryz.prog 100 #[.pointer none, .int .i64 1] w _
    go_enter Tryz.func100, Tryz.ntmps100
    go_wp2
    go_ret
    exact ⟨rfl, Below.refl _ _⟩
  go_enter Tryz.func79, Tryz.ntmps79
  go_wp2_with (first
    | (go_at_call 100; refine HM.out.mono ?_; rintro e w1 ⟨rfl, b1⟩)
    | fail)
  go_ret
  exact ⟨rfl, b1⟩
theorem pnil_rank (w : World) {k : IdK} (hk : k.ok) : Calls Tryz.prog 54 #[.pointer none, k.v] w fun e w' => e = .returned (.int .i64 (-1)) ∧ Below w.heap.size w w' := by
  have HA : Hid (∀ W : World, Calls Tryz.prog 76 #[.pointer none, k.v, .int .i64 0] W fun e w' => e = .returned (.int .i64 (-1)) ∧ Below W.heap.size W w') := fun W => by
    have bx : Below W.heap.size W (W.alloc (.cells k.c.toArray 36)) := (Below.refl _ _).alloc (Nat.le_refl _) _
    have hx := id_new W k
    have HH : Hid (∀ W : World, Calls Tryz.prog 47 #[.pointer none, k.v] W fun e w' => e = .returned (.bool false) ∧ Below W.heap.size W w') := fun W => pnil_has W k
    show Calls Tryz.prog 76 #[.pointer none, .agg k.c.toArray, .int .i64 0] W _
    go_enter Tryz.func76, Tryz.ntmps76
    go_upto_region 1 with fail
    generalize W.alloc (.cells k.c.toArray 36) = wx at *
    have HL := hidMk (load_id hk hx)
    clear hx
    go_wp2_with (first
      | (refine wload wx rfl rfl rfl HL.out rfl ?_)
      | (go_at_call 47; refine (HH.out _).mono ?_; rintro e w1 ⟨rfl, b1⟩)
      | fail)
    go_ret
    exact ⟨rfl, bx.trans (b1.mono bx.size)⟩
  have bx : Below w.heap.size w (w.alloc (.cells k.c.toArray 36)) := (Below.refl _ _).alloc (Nat.le_refl _) _
  have hx := id_new w k
  show Calls Tryz.prog 54 #[.pointer none, .agg k.c.toArray] w _
  go_enter Tryz.func54, Tryz.ntmps54
  go_upto_region 1 with fail
  generalize w.alloc (.cells k.c.toArray 36) = wx at *
  have HL := hidMk (load_id hk hx)
  clear hx
  go_wp2_with (first
    | (refine wload wx rfl rfl rfl HL.out rfl ?_)
    | (go_at_call 76; refine (HA.out _).mono ?_; rintro e w1 ⟨rfl, b1⟩)
    | fail)
  go_ret
  exact ⟨rfl, bx.trans (b1.mono bx.size)⟩
theorem pnil_index (w : World) {k : IdK} (hk : k.ok) : Calls Tryz.prog 78 #[.pointer none, k.v] w fun e w' => e = .returned (.int .i64 (-1)) ∧ Below w.heap.size w w' := by
  have HA : Hid (∀ W : World, Calls Tryz.prog 76 #[.pointer none, k.v, .int .i64 1] W fun e w' => e = .returned (.int .i64 (-1)) ∧ Below W.heap.size W w') := fun W => by
    have bx : Below W.heap.size W (W.alloc (.cells k.c.toArray 36)) := (Below.refl _ _).alloc (Nat.le_refl _) _
    have hx := id_new W k
    have HH : Hid (∀ W : World, Calls Tryz.prog 47 #[.pointer none, k.v] W fun e w' => e = .returned (.bool false) ∧ Below W.heap.size W w') := fun W => pnil_has W k
    show Calls Tryz.prog 76 #[.pointer none, .agg k.c.toArray, .int .i64 1] W _
    go_enter Tryz.func76, Tryz.ntmps76
    go_upto_region 1 with fail
    generalize W.alloc (.cells k.c.toArray 36) = wx at *
    have HL := hidMk (load_id hk hx)
    clear hx
    go_wp2_with (first
      | (refine wload wx rfl rfl rfl HL.out rfl ?_)
      | (go_at_call 47; refine (HH.out _).mono ?_; rintro e w1 ⟨rfl, b1⟩)
      | fail)
    go_ret
    exact ⟨rfl, bx.trans (b1.mono bx.size)⟩
  have bx : Below w.heap.size w (w.alloc (.cells k.c.toArray 36)) := (Below.refl _ _).alloc (Nat.le_refl _) _
  have hx := id_new w k
  show Calls Tryz.prog 78 #[.pointer none, .agg k.c.toArray] w _
  go_enter Tryz.func78, Tryz.ntmps78
  go_upto_region 1 with fail
  generalize w.alloc (.cells k.c.toArray 36) = wx at *
  have HL := hidMk (load_id hk hx)
  clear hx
  go_wp2_with (first
    | (refine wload wx rfl rfl rfl HL.out rfl ?_)
    | (go_at_call 76; refine (HA.out _).mono ?_; rintro e w1 ⟨rfl, b1⟩)
    | fail)
  go_ret
  exact ⟨rfl, bx.trans (b1.mono bx.size)⟩
theorem box_zid {w w1 : World} {rb : Nat} (hr : IdAt w1 rb zId) (b1 : Below rb w w1) (hw : rb = w.heap.size) : (Instr.storeAt 36 (.pointer (some ⟨rb, 0, none⟩)) zId.v).run Tryz.prog w1 = .ok () (w1.setRow rb zId.c.toArray) ∧ IdAt (w1.setRow rb zId.c.toArray) rb zId ∧ Below rb w (w1.setRow rb zId.c.toArray) := by
  subst hw
  exact ⟨store_id zId_ok zId_ok hr, hr.set zId, b1.trans (set_below _ b1.size (Nat.le_refl _))⟩
theorem pnil_at (w : World) (z : Int) : Calls Tryz.prog 77 #[.pointer none, .int .i64 z] w fun e w' => e = .returned (.tuple #[zId.v, .bool false]) ∧ Below w.heap.size w w' := by
  have HA : Hid (∀ W : World, Calls Tryz.prog 99 #[.pointer none, .int .i64 z, .int .i64 0] W fun e w' => e = .returned (.tuple #[zId.v, .bool false]) ∧ Below W.heap.size W w') := fun w => by
    have hr := id_new w zId
    have bx : Below w.heap.size w (w.alloc (.cells zId.c.toArray 36)) := (Below.refl _ _).alloc (Nat.le_refl _) _
    show Calls Tryz.prog 99 #[.pointer none, .int .i64 z, .int .i64 0] w _
    go_enter Tryz.func99, Tryz.ntmps99
    go_upto_region 2 with (first
      | (refine wpList_run rfl (exec_alloc (t := 36) rfl (id_zero _)) ?_)
      | fail)
    generalize w.alloc (.cells zId.c.toArray 36) = wx at *
    obtain ⟨e1, i3, b3⟩ := box_zid hr bx rfl
    refine finn2 _ _ _ rfl rfl e1 ?_
    intro a' w2 hw ha
    subst ha
    obtain rfl : w2 = _ := hw
    simp only [Act.put, List.setIfInBounds_toArray, List.set_cons_zero, List.set_cons_succ]
    generalize wx.setRow w.heap.size zId.c.toArray = w3 at *
    clear e1
    go_wp2
    refine bodyPost_ret (results_c2 rfl rfl (loadVar_id zId_ok i3)) rfl ?_
    exact ⟨rfl, b3⟩
  have hr := id_new w zId
  have bx : Below w.heap.size w (w.alloc (.cells zId.c.toArray 36)) := (Below.refl _ _).alloc (Nat.le_refl _) _
  go_enter Tryz.func77, Tryz.ntmps77
  go_upto_region 1 with (first
    | (refine wpList_run rfl (exec_alloc (t := 36) rfl (id_zero _)) ?_)
    | fail)
  generalize w.alloc (.cells zId.c.toArray 36) = wx at *
  have HR := hidMk hr
  have BX := hidMk bx
  clear hr bx
  go_wp2_with (first
    | (go_at_call 99; refine (HA.out _).mono ?_; rintro e w1 ⟨rfl, hb⟩; have ST := hidMk (store_id zId_ok zId_ok (HR.out.below hb)))
    | (refine wpList_skip rfl rfl (exec_store (t := 36) (xv := .pointer (some ⟨w.heap.size, 0, none⟩)) (yv := zId.v) rfl rfl rfl ST.out) ?_)
    | fail)
  refine bodyPost_ret (results_c2 rfl rfl (loadVar_id zId_ok ((HR.out.below hb).set zId))) rfl ?_
  have b2 := BX.out.trans (hb.mono BX.out.size)
  exact ⟨rfl, b2.trans (set_below _ b2.size (Nat.le_refl _))⟩
def PV (w : World) (pv : Value) (E : List Elt) : Prop := (pv = .pointer none ∧ E = []) ∨ ∃ s : Sx, pv = .pointer (some ⟨s.sb, 0, none⟩) ∧ SeqAt w s E
theorem PV.below {w w' : World} {pv : Value} {E : List Elt} (h : PV w pv E) (b : Below w.heap.size w w') : PV w' pv E := by
  rcases h with h | ⟨s, e, h⟩
  · exact .inl h
  · exact .inr ⟨s, e, h.below b⟩
section
variable {w : World} {pv : Value} {E : List Elt}
theorem pv_len (h : PV w pv E) : Calls Tryz.prog 103 #[pv] w fun e w' => e = .returned (.int .i64 ((visE E false).length : Int)) ∧ Below w.heap.size w w' := by
  rcases h with ⟨rfl, rfl⟩ | ⟨s, rfl, h⟩
  · exact pnil_len w
  · exact len_any h
theorem pv_shown (h : PV w pv E) : Calls Tryz.prog 79 #[pv] w fun e w' => e = .returned (.int .i64 ((visE E true).length : Int)) ∧ Below w.heap.size w w' := by
  rcases h with ⟨rfl, rfl⟩ | ⟨s, rfl, h⟩
  · exact pnil_shown w
  · exact shown_any h
theorem pv_rank (h : PV w pv E) {k : IdK} (hk : k.ok) : Calls Tryz.prog 54 #[pv, k.v] w fun e w' => e = .returned (.int .i64 (aheadE E false k)) ∧ Below w.heap.size w w' := by
  rcases h with ⟨rfl, rfl⟩ | ⟨s, rfl, h⟩
  · exact pnil_rank w hk
  · exact rank_any h hk
theorem pv_index (h : PV w pv E) {k : IdK} (hk : k.ok) : Calls Tryz.prog 78 #[pv, k.v] w fun e w' => e = .returned (.int .i64 (aheadE E true k)) ∧ Below w.heap.size w w' := by
  rcases h with ⟨rfl, rfl⟩ | ⟨s, rfl, h⟩
  · exact pnil_index w hk
  · exact index_any h hk
theorem nthE_nil (c : Bool) (z : Int) : nthE [] c z = (zId, false) := by
  unfold nthE
  rw [if_neg (fun h => by simp [visE] at h; omega)]
theorem pv_at (h : PV w pv E) (z : Int) (hz : -9223372036854775808 ≤ z ∧ z ≤ 9223372036854775807) : Calls Tryz.prog 77 #[pv, .int .i64 z] w fun e w' => e = .returned (.tuple #[(nthE E false z).1.v, .bool (nthE E false z).2]) ∧ Below w.heap.size w w' := by
  rcases h with ⟨rfl, rfl⟩ | ⟨s, rfl, h⟩
  · rw [nthE_nil]; exact pnil_at w z
  · exact at_any h z hz
end
attribute [local go_sem] Oper.semAt_some
theorem PV.few {w : World} {pv : Value} {E : List Elt} (h : PV w pv E) : E.length + 1 ≤ 1400000000000 := by
  rcases h with ⟨_, rfl⟩ | ⟨s, _, h⟩
  · simp
  · exact h.few
theorem PV.sok {w : World} {pv : Value} {E : List Elt} (h : PV w pv E) : SeqOk E := by
  rcases h with ⟨_, rfl⟩ | ⟨s, _, h⟩
  · exact ⟨by simp, by simp, by simp⟩
  · exact h.lk.ok
section
variable {w : World} {pv : Value} {E : List Elt}
theorem edge_anyP (h : PV w pv E) {k : IdK} (hk : k.ok) (bh : Bool) {z : Int} (hz : -9223372036854775808 ≤ z ∧ z ≤ 9223372036854775807) : Calls Tryz.prog 102 #[pv, k.v, .bool bh, .int .i64 z] w fun e w' => e = .returned (.tuple #[.int .i64 (edgeP E k bh z).1, .bool (edgeP E k bh z).2]) ∧ Below w.heap.size w w' := by
  have bx : Below w.heap.size w (w.alloc (.cells k.c.toArray 36)) := (Below.refl _ _).alloc (Nat.le_refl _) _
  have hx := id_new w k
  have HR : Hid (∀ W, PV W pv E → Calls Tryz.prog 54 #[pv, k.v] W fun e w' => e = .returned (.int .i64 (aheadE E false k)) ∧ Below W.heap.size W w') := fun W hW => pv_rank hW hk
  have HB := hidMk (And.intro (ahead_bd E false k) h.few)
  have HE : Hid (edgeP E k bh z = if k = zId then (z, true) else if bh = true then (aheadE E false k + 1, decide (aheadE E false k ≥ 0)) else (aheadE E false k, decide (aheadE E false k ≥ 0))) := rfl
  generalize edgeP E k bh z = res at *
  generalize aheadE E false k = r at *
  show Calls Tryz.prog 102 #[pv, .agg k.c.toArray, .bool bh, .int .i64 z] w _
  go_enter Tryz.func102, Tryz.ntmps102
  go_upto_region 1 with fail
  generalize w.alloc (.cells k.c.toArray 36) = wx at *
  have h1 := h.below bx
  have HX := hidMk hx
  clear hx
  refine edg1 (k := k) (r := r) (fun W => Below wx.heap.size wx W) _ wx _ rfl rfl rfl (fun W e => by rw [e]; exact load_id hk HX.out) (HR.out _ h1) ?_
  intro a' w1 hf ha
  subst ha
  simp only [Act.put, List.setIfInBounds_toArray, List.set_cons_zero, List.set_cons_succ]
  have HX1 := hidMk (HX.out.below hf)
  have B1 := hidMk (bx.trans (hf.mono bx.size))
  clear HX HR hf h1
  go_upto_region 2 with fail
  obtain ⟨q, hq⟩ : ∃ q, decide (k = zId) = q := ⟨_, rfl⟩
  refine edg2 (k := k) (z := q) _ w1 _ rfl rfl hk hq (fun W e => by rw [e]; exact load_id hk HX1.out) ?_
  intro a' w2 hw ha
  obtain rfl : w1 = w2 := hw.symm
  subst ha
  simp only [Act.put, List.setIfInBounds_toArray, List.set_cons_zero, List.set_cons_succ]
  have HQ := hidMk hq
  clear hq HX1
  cases q with
  | true =>
    have e : res = (z, true) := by rw [HE.out, if_pos (of_decide_eq_true HQ.out)]
    clear HE
    subst e
    go_wp2
    refine bodyPost_ret (results_tmp2 rfl _ _ _) rfl ?_
    exact ⟨rfl, B1.out⟩
  | false =>
    obtain ⟨y, hy⟩ : ∃ y, decide (r ≥ 0) = y := ⟨_, rfl⟩
    have HY := hidMk hy
    clear hy
    cases bh with
    | true =>
      have e : res = (r + 1, y) := by rw [HE.out, if_neg (of_decide_eq_false HQ.out), if_pos rfl, HY.out]
      clear HE
      subst e
      go_upto_region 5 with fail
      refine edg5 (r := r) (z := y) _ w1 _ rfl rfl (by have := HB.out; omega) HY.out ?_
      intro a' w2 hw ha
      obtain rfl : w1 = w2 := hw.symm
      subst ha
      simp only [Act.put, List.setIfInBounds_toArray, List.set_cons_zero, List.set_cons_succ]
      clear HB
      go_wp2
      refine bodyPost_ret (results_tmp2 rfl _ _ _) rfl ?_
      exact ⟨rfl, B1.out⟩
    | false =>
      have e : res = (r, y) := by rw [HE.out, if_neg (of_decide_eq_false HQ.out), if_neg (by decide), HY.out]
      clear HE
      subst e
      go_upto_region 6 with fail
      refine edg6 (r := r) (z := y) _ w1 _ rfl rfl HY.out ?_
      intro a' w2 hw ha
      obtain rfl : w1 = w2 := hw.symm
      subst ha
      simp only [Act.put, List.setIfInBounds_toArray, List.set_cons_zero, List.set_cons_succ]
      clear HB
      go_wp2
      refine bodyPost_ret (results_tmp2 rfl _ _ _) rfl ?_
      exact ⟨rfl, B1.out⟩
theorem index_at_anyP (h : PV w pv E) {r : Int} (hr : -9223372036854775808 ≤ r ∧ r ≤ 9223372036854775807) : Calls Tryz.prog 55 #[pv, .int .i64 r] w fun e w' => e = .returned (.int .i64 (idxE E r)) ∧ Below w.heap.size w w' := by
  have HE : Hid (idxE E r = if (nthE E false r).2 = true then aheadE E true (nthE E false r).1 else ((visE E true).length : Int)) := rfl
  have OK : (nthE E false r).1.ok := nthE_ok h.sok false r
  have CA : Hid (Calls Tryz.prog 77 #[pv, .int .i64 r] w fun e w' => e = .returned (.tuple #[(nthE E false r).1.v, .bool (nthE E false r).2]) ∧ ∃ b1 w1 w2, (Instr.alloc 36 true (.tuple #[])).run Tryz.prog w' = .ok (.pointer (some ⟨b1, 0, none⟩)) w1 ∧ (Instr.storeAt 36 (.pointer (some ⟨b1, 0, none⟩)) (nthE E false r).1.v).run Tryz.prog w1 = .ok () w2 ∧ (IdAt w2 b1 (nthE E false r).1 ∧ Below w.heap.size w w2)) := by
    refine (pv_at h r hr).mono ?_
    rintro e w' ⟨rfl, b⟩
    have i0 := id_new w' zId
    have bx : Below w'.heap.size w' (w'.alloc (.cells zId.c.toArray 36)) := (Below.refl _ _).alloc (Nat.le_refl _) _
    refine ⟨rfl, w'.heap.size, _, _, id_zero w', store_id zId_ok OK i0, i0.set _, ?_⟩
    have b2 := b.trans (bx.mono b.size)
    exact b2.trans (set_below _ b2.size b.size)
  have HI : Hid (∀ W, PV W pv E → Calls Tryz.prog 78 #[pv, (nthE E false r).1.v] W fun e w' => e = .returned (.int .i64 (aheadE E true (nthE E false r).1)) ∧ Below W.heap.size W w') := fun W hW => pv_index hW OK
  have HS : Hid (∀ W, PV W pv E → Calls Tryz.prog 79 #[pv] W fun e w' => e = .returned (.int .i64 ((visE E true).length : Int)) ∧ Below W.heap.size W w') := fun W hW => pv_shown hW
  have HH := hidMk (fun (W : World) (b : Below w.heap.size w W) => h.below b)
  clear h
  generalize idxE E r = res at *
  generalize nthE E false r = kb at *
  obtain ⟨k, q⟩ := kb
  simp only at OK CA HI HE
  go_enter Tryz.func55, Tryz.ntmps55
  go_upto_region 1 with fail
  refine ixa1 (k := k) (z := q) (fun b1 W => IdAt W b1 k ∧ Below w.heap.size w W) _ w _ rfl rfl rfl CA.out ?_
  intro b1 a' w1 hf ha
  subst ha
  simp only [Act.put, List.setIfInBounds_toArray, List.set_cons_zero, List.set_cons_succ]
  have HF := hidMk hf
  clear hf CA
  cases q with
  | true =>
    have e : res = aheadE E true k := by rw [HE.out, if_pos rfl]
    clear HE
    subst e
    go_upto_region 3 with fail
    refine ixa3 (k := k) (r := aheadE E true k) (fun W => Below w1.heap.size w1 W) _ w1 _ rfl rfl rfl (fun W e => by rw [e]; exact load_id OK HF.out.1) (HI.out _ (HH.out _ HF.out.2)) ?_
    intro a' w2 hf ha
    subst ha
    simp only [Act.put, List.setIfInBounds_toArray, List.set_cons_zero, List.set_cons_succ]
    have B2 : Hid (Below w.heap.size w w2) := HF.out.2.trans (hf.mono HF.out.2.size)
    clear hf
    go_wp2
    go_ret
    exact ⟨rfl, B2.out⟩
  | false =>
    have e : res = ((visE E true).length : Int) := by rw [HE.out, if_neg (by decide)]
    clear HE
    subst e
    go_wp2_with (first
      | (go_at_call 79; refine (HS.out _ (HH.out _ HF.out.2)).mono ?_; rintro e w2 ⟨rfl, hb⟩)
      | fail)
    go_ret
    exact ⟨rfl, HF.out.2.trans (hb.mono HF.out.2.size)⟩
theorem reach_anyP (h : PV w pv E) {x : MkV} (hx : x.ok) (hs : 0 ≤ x.sd ∧ x.sd ≤ 3) {b : Nat} (hb : RM.Bx w b x) : Calls Tryz.prog 81 #[.pointer (some ⟨b, 0, none⟩), pv] w fun e w' => e = .returned (.tuple #[.int .i64 (reachP E x).1, .int .i64 (reachP E x).2]) ∧ Below w.heap.size w w' := by
  have HE : Hid (reachP E x = if (edgeP E x.fr (bF x.sd) 0).2 = true ∧ (edgeP E x.to (bT x.sd) (E.length : Int)).2 = true then ((edgeP E x.fr (bF x.sd) 0).1, (edgeP E x.to (bT x.sd) (E.length : Int)).1) else (0, 0)) := rfl
  have hf := h.few
  have C1 : Hid (∀ W, PV W pv E → Calls Tryz.prog 102 #[pv, x.fr.v, .bool (bF x.sd), .int .i64 0] W fun e w' => e = .returned (.tuple #[.int .i64 (edgeP E x.fr (bF x.sd) 0).1, .bool (edgeP E x.fr (bF x.sd) 0).2]) ∧ Below W.heap.size W w') := fun W hW => edge_anyP hW hx.fr _ (by omega)
  have C2 : Hid (∀ W, PV W pv E → Calls Tryz.prog 102 #[pv, x.to.v, .bool (bT x.sd), .int .i64 (E.length : Int)] W fun e w' => e = .returned (.tuple #[.int .i64 (edgeP E x.to (bT x.sd) (E.length : Int)).1, .bool (edgeP E x.to (bT x.sd) (E.length : Int)).2]) ∧ Below W.heap.size W w') := fun W hW => edge_anyP hW hx.to _ (by omega)
  have CL : Hid (∀ W, PV W pv E → Calls Tryz.prog 103 #[pv] W fun e w' => e = .returned (.int .i64 (E.length : Int)) ∧ Below W.heap.size W w') := fun W hW => by
    have := pv_len hW
    rw [vis_all] at this
    exact this
  have HH := hidMk (fun (W : World) (bl : Below w.heap.size w W) => And.intro (h.below bl) (hb.below bl))
  have hxx := hidMk hx
  have r1 : decide ((if bF x.sd = true then (1 : Int) else 0) ≠ 0) = bF x.sd := by cases bF x.sd <;> rfl
  have r2 : decide ((if bT x.sd = true then (2 : Int) else 0) ≠ 0) = bT x.sd := by cases bT x.sd <;> rfl
  obtain ⟨q1, hq1⟩ : ∃ q, (if bF x.sd = true then (1 : Int) else 0) = q := ⟨_, rfl⟩
  obtain ⟨q2, hq2⟩ : ∃ q, (if bT x.sd = true then (2 : Int) else 0) = q := ⟨_, rfl⟩
  rw [hq1] at r1
  rw [hq2] at r2
  have A1 : Hid (∀ W, (binOp .and 3 (.int .i64 x.sd) (.int .i64 1)).run Tryz.prog W = .ok (.int .i64 q1) W) := fun W => by rw [← hq1]; exact and_one hs W
  have A2 : Hid (∀ W, (binOp .and 3 (.int .i64 x.sd) (.int .i64 2)).run Tryz.prog W = .ok (.int .i64 q2) W) := fun W => by rw [← hq2]; exact and_two hs W
  have R1 := hidMk r1
  have R2 := hidMk r2
  clear h hb hf hx hs r1 r2 hq1 hq2
  generalize reachP E x = res at *
  generalize edgeP E x.fr (bF x.sd) 0 = e1 at *
  generalize edgeP E x.to (bT x.sd) (E.length : Int) = e2 at *
  obtain ⟨f1, z1⟩ := e1
  obtain ⟨f2, z2⟩ := e2
  simp only at C1 C2 HE
  go_enter Tryz.func81, Tryz.ntmps81
  go_upto_region 1 with fail
  refine rea1 (x := x) (b := b) (q := q1) (f := f1) (z := z1) (r := bF x.sd) (fun W => Below w.heap.size w W) _ w _ rfl rfl rfl ((Below.refl _ _).drew) R1.out A1.out (fun W bl => mk_fr hxx.out (HH.out W bl).2.rng) (fun W bl => mk_sd hxx.out (HH.out W bl).2.rng) ((C1.out _ (HH.out _ (Below.refl _ _).drew).1).mono ?_) ?_
  · rintro e w' ⟨rfl, bl⟩
    exact ⟨rfl, (Below.refl _ _).drew.trans (bl.mono (Below.refl w.heap.size w).drew.size)⟩
  intro a' w1 hf ha
  subst ha
  simp only [Act.put, List.setIfInBounds_toArray, List.set_cons_zero, List.set_cons_succ]
  have B1 := hidMk hf
  clear hf C1 R1
  go_upto_region 2 with fail
  refine rea2 (x := x) (b := b) (q := q2) (f := f2) (n := (E.length : Int)) (z := z2) (r := bT x.sd) (fun W => Below w.heap.size w W) _ w1 _ rfl rfl rfl (B1.out.drew) R2.out A2.out (fun W bl => mk_to hxx.out (HH.out W bl).2.rng) (fun W bl => mk_sd hxx.out (HH.out W bl).2.rng) ((CL.out _ (HH.out _ B1.out.drew).1).mono ?_) ?_
  · rintro e w' ⟨rfl, bl⟩
    have b2 := B1.out.drew.trans (bl.mono B1.out.drew.size)
    refine ⟨rfl, b2, (C2.out _ (HH.out _ b2).1).mono ?_⟩
    rintro e w'' ⟨rfl, bl⟩
    exact ⟨rfl, b2.trans (bl.mono b2.size)⟩
  intro a' w2 hf ha
  subst ha
  simp only [Act.put, List.setIfInBounds_toArray, List.set_cons_zero, List.set_cons_succ]
  have B2 := hidMk hf
  clear hf C2 R2 CL HH B1 hxx A1 A2
  generalize bF x.sd = g1 at *
  generalize bT x.sd = g2 at *
  cases z1 with
  | false =>
    have e : res = (0, 0) := by rw [HE.out, if_neg (fun q => by cases q.1)]
    clear HE
    subst e
    go_wp2
    refine bodyPost_ret (results_tmp2 rfl _ _ _) rfl ?_
    exact ⟨rfl, B2.out⟩
  | true =>
    cases z2 with
    | false =>
      have e : res = (0, 0) := by rw [HE.out, if_neg (fun q => by cases q.2)]
      clear HE
      subst e
      go_wp2
      refine bodyPost_ret (results_tmp2 rfl _ _ _) rfl ?_
      exact ⟨rfl, B2.out⟩
    | true =>
      have e : res = (f1, f2) := by rw [HE.out, if_pos ⟨rfl, rfl⟩]
      clear HE
      subst e
      go_wp2
      refine bodyPost_ret (results_tmp2 rfl _ _ _) rfl ?_
      exact ⟨rfl, B2.out⟩
theorem cvE_okP {w : World} {pv : Value} {E : List Elt} (h : PV w pv E) {x : MkV} (hx : x.ok) : (cvE E x).ok := by
  have b := cv_bd h.sok x
  have n : (visE E true).length ≤ E.length := List.length_filter_le _ _
  have f := h.few
  exact ⟨by omega, by omega, by omega, by omega, hx.nm, hx.v⟩
set_option maxHeartbeats 8000000 in
theorem covers_anyP {w : World} {pv : Value} {E : List Elt} {base : Nat} {m : Mx} (h : PV w pv E) (hm : MkAt w base m) :
    Calls Tryz.prog 63 #[.pointer (some ⟨m.mb, 0, none⟩), pv] w fun e w' => ∃ fm, e = .returned (.map (some fm)) ∧ CvS w fm E m.L w' := by
  obtain ⟨E1, C1, b1⟩ := CmAt.new w
  obtain ⟨w1, hw1⟩ : ∃ w1, w.alloc (.map #[] 0) = w1 := ⟨_, rfl⟩
  rw [hw1] at E1 C1 b1
  obtain ⟨la, lc, elv, hat⟩ := hm.lvS
  have LL := (hm.below b1).ldl
  rw [elv] at LL
  have HH := hidMk (fun (W : World) (b : Below w.heap.size w W) => h.below b)
  have HOK := hidMk (fun x hx => cvE_okP (x := x) h hx)
  have RN := hidMk (fun x => reach_nat h.sok x)
  have FEW := hidMk h.few
  have HAT := hidMk (fun (W : World) (b : Below w.heap.size w W) => hat.below b)
  have MOK := hidMk hm.ok
  obtain ⟨n, hn⟩ : ∃ n, m.L.length = n := ⟨_, rfl⟩
  have HN := hidMk (show m.L.length = n ∧ n ≤ 900000000000 from ⟨hn, by rw [← hn]; exact hm.n⟩)
  rw [hn] at LL
  obtain ⟨fm, hfm⟩ : ∃ fm, w.heap.size = fm := ⟨_, rfl⟩
  have I0 := hidMk (show CvS w fm E (m.L.take 0) w1 from ⟨[], by rw [← hfm]; exact C1, b1⟩)
  rw [hfm] at E1
  clear hw1 C1 b1 elv hat h hm hn hfm
  go_enter Tryz.func63, Tryz.ntmps63
  go_upto_region 1 with fail
  refine cvr1 (fm := fm) (w1 := w1) _ w _ rfl E1 ?_
  intro a' w3 hw ha
  obtain rfl : w1 = w3 := hw.symm
  subst ha
  simp only [Act.put, List.setIfInBounds_toArray, List.set_cons_zero, List.set_cons_succ]
  clear E1
  go_upto_region 2 with fail
  refine cvr2 (mb := m.mb) (n := n) (c := lc) (la := la) _ w1 _ rfl rfl LL ?_
  intro a' w3 hw ha
  obtain rfl : w1 = w3 := hw.symm
  subst ha
  simp only [Act.put, List.setIfInBounds_toArray, List.set_cons_zero, List.set_cons_succ]
  clear LL
  go_wp2
  go_loopw [17] (fun v17 wr => ∃ i : Nat, v17 = .int .i64 (i : Int) ∧ i ≤ n ∧ Hid (CvS w fm E (m.L.take i) wr)) (fun v17 _ => n - (intOf v17).toNat)
  case atStart => exact ⟨0, rfl, Nat.zero_le _, I0⟩
  case round =>
    clear I0
    obtain ⟨i, rfl, hi, HI⟩ := hrel
    by_cases h : i < n
    · have h' : (i : Int) < (n : Int) := by omega
      have hn64 : n ≤ 9223372036854775807 := by have := HN.out; omega
      obtain ⟨x, hx⟩ : ∃ x, m.L[i]? = some x := ⟨_, List.getElem?_eq_getElem (by have := HN.out; omega)⟩
      have MX := hidMk (MOK.out x (List.mem_of_getElem? hx))
      have TK := hidMk (show m.L.take (i + 1) = m.L.take i ++ [x] by rw [List.take_add_one, hx]; rfl)
      have MS := hidMk (show n - (((i + 1 : Nat) : Int)).toNat < n - ((i : Nat) : Int).toNat by simp only [Int.toNat_natCast]; omega)
      have HH1 := hidMk h
      obtain ⟨D, HC, hbl⟩ : ∃ D, Hid (CmAt wr w.heap.size fm D (fun nm => cvN E (m.L.take i) nm)) ∧ Hid (Below w.heap.size w wr) := by
        obtain ⟨D, c, b⟩ := HI.out
        exact ⟨D, hidMk c, hidMk b⟩
      obtain ⟨g, o, rfl, _, hr⟩ := (HAT.out wr hbl.out).get (i := i) (by have := HN.out; omega)
      have hr' : wr.rangeAt g (o + 105 * i) x.c := by
        have e : m.L[i]'(by have := HN.out; omega) = x := (List.getElem?_eq_some_iff.1 hx).2
        rw [e] at hr; exact hr
      have LX := RowT.ld RM_is MX.out.1 hr'
      have EA := RowT.bx_zero RM_is wr
      have ES := RowT.bx_new RM_is wr MX.out.1
      obtain ⟨hbx, hbb⟩ := RowT.bx_is RM wr x
      clear hr hr' hx
      go_upto_region 4 with fail
      refine cvr4 (g := g) (o := o) (n := n) (c := lc) (i := i) (eb := wr.heap.size) (x := x) _ wr _ rfl rfl rfl h hn64 LX EA ES ?_
      intro a' w3 hw ha
      subst ha
      rw [← hw] at hbx hbb
      obtain ⟨w4, hw4⟩ : ∃ w4, w3 = w4 := ⟨_, rfl⟩
      rw [hw4] at hbx hbb ⊢
      simp only [Act.put, List.setIfInBounds_toArray, List.set_cons_zero, List.set_cons_succ]
      clear LX EA ES hw hw4
      obtain ⟨f, t, hft, hf, ht⟩ := RN.out x
      have b4 := hbl.out.trans (hbb.mono hbl.out.size)
      have RC := hidMk (reach_anyP (HH.out w4 b4) MX.out.1 MX.out.2 hbx)
      have HFT := hidMk hft
      have HB4 := hidMk (And.intro hbx hbb)
      have hF := hidMk (show cvE E x = ⟨idxE E (f : Int), idxE E (t : Int), x.nm, x.v⟩ by unfold cvE; rw [hft])
      rw [hft] at RC
      clear hbx hbb b4 hft
      go_upto_region 5 with fail
      refine cvr5n (sp := pv) (eb := wr.heap.size) (f := (f : Int)) (t := (t : Int)) (fun W => Below w4.heap.size w4 W) _ w4 _ rfl rfl rfl RC.out ?_
      intro a' w5 b5 ha
      subst ha
      simp only [Act.put, List.setIfInBounds_toArray, List.set_cons_zero, List.set_cons_succ]
      clear RC
      have hb05 : Below wr.heap.size wr w5 := HB4.out.2.trans (b5.mono HB4.out.2.size)
      have hbx5 := HB4.out.1.below b5
      have B05 := hidMk hb05
      have BX5 := hidMk hbx5
      clear hb05 hbx5 b5 HB4
      have hfe := FEW.out
      have H5 : ∀ W, Below w5.heap.size w5 W → PV W pv E := fun W b => HH.out W ((hbl.out.trans (B05.out.mono hbl.out.size)).trans (b.mono (Nat.le_trans hbl.out.size B05.out.size)))
      have IX : ∀ (r : Nat), r ≤ E.length → ∀ W, Below w5.heap.size w5 W → Calls Tryz.prog 55 #[pv, .int .i64 (r : Int)] W fun e w1 => e = .returned (.int .i64 (idxE E (r : Int))) ∧ Below W.heap.size W w1 := fun r hr W b => index_at_anyP (H5 W b) (by omega)
      have okp := HOK.out x MX.out.1
      rw [hF.out] at okp
      have IF := IX f hf
      have IT := IX t ht
      clear IX H5 hfe
      obtain ⟨fi, hfi⟩ : ∃ fi, idxE E (f : Int) = fi := ⟨_, rfl⟩
      obtain ⟨ti, hti⟩ : ∃ ti, idxE E (t : Int) = ti := ⟨_, rfl⟩
      rw [hfi] at IF okp hF
      rw [hti] at IT okp hF
      clear hfi hti
      go_upto_region 6 with fail
      refine cvr6n (sp := pv) (eb := wr.heap.size) (f := (f : Int)) (t := (t : Int)) (fi := fi) (ti := ti) (x := x) (fun W => Below w5.heap.size w5 W) (fun pb W => Below w5.heap.size w5 W ∧ w5.heap.size ≤ pb ∧ RSp.Bx W pb zSp7) (fun pb W => Below w5.heap.size w5 W ∧ w5.heap.size ≤ pb ∧ RSp.Bx W pb ⟨fi, ti, x.nm, x.v⟩) _ w5 _ rfl rfl rfl rfl rfl ((Below.refl _ _).drew) (fun _ _ h => h.1) (fun _ _ h => h.1) (fun W b => mk_nm MX.out.1 (RowT.Bx.rng (BX5.out.below b))) (fun W b => mk_v MX.out.1 (RowT.Bx.rng (BX5.out.below b)))
        (fun W b => (IF W b).mono fun e W1 q => ⟨q.1, b.trans (q.2.mono b.size)⟩) (fun W b => (IT W b).mono fun e W1 q => ⟨q.1, b.trans (q.2.mono b.size)⟩)
        (fun pb W b => (IF W b.1).mono fun e W1 q => ⟨q.1, b.1.trans (q.2.mono b.1.size), b.2.1, b.2.2.below q.2⟩) (fun pb W b => (IT W b.1).mono fun e W1 q => ⟨q.1, b.1.trans (q.2.mono b.1.size), b.2.1, b.2.2.below q.2⟩)
        (fun W b => ⟨_, _, RowT.bx_zero RSp_is W, b.trans ((RowT.bx_is RSp W zSp7).2.mono b.size), b.size, (RowT.bx_is RSp W zSp7).1⟩)
        (fun pb W b => ⟨_, RowT.bx_store RSp_is zSp7_ok okp b.2.2, b.1.trans (set_below _ b.1.size b.2.1), b.2.1, setRow_heap W pb _ _ _ _ b.2.2⟩) ?_ ?_ ?_
      all_goals
        rintro pb a' w6 ⟨b6, hpb, hb6⟩ ha
        subst ha
        simp only [Act.put, List.setIfInBounds_toArray, List.set_cons_zero, List.set_cons_succ]
        have b06 : Below wr.heap.size wr w6 := B05.out.trans (b6.mono B05.out.size)
        have bx6 := BX5.out.below b6
        have PB := hidMk (Nat.le_trans B05.out.size hpb)
        have PL := hidMk (Array.getElem?_eq_some_iff.1 hb6).1
        obtain ⟨r, hr⟩ : ∃ r, decide (fi < ti) = r := ⟨_, rfl⟩
        have L1 := sp_fr hb6
        have L2 := sp_to hb6
        have B06 := hidMk b06
        have BX6 := hidMk bx6
        have HB6 := hidMk hb6
        clear b6 hpb hb6 b06 bx6
        go_upto_region 7 with fail
        refine cvr7 (eb := pb) (p := ⟨fi, ti, x.nm, x.v⟩) (r := r) _ w6 _ rfl rfl hr L1 L2 ?_
        intro a' w3 hw ha
        obtain rfl : w6 = w3 := hw.symm
        subst ha
        simp only [Act.put, List.setIfInBounds_toArray, List.set_cons_zero, List.set_cons_succ]
        clear L1 L2
        have H := HH1.out
        cases r with
        | false =>
          have NI := hidMk (show CvS w fm E (m.L.take (i + 1)) w6 by
            rw [TK.out]
            exact CvS.skip HI.out B06.out (by rw [hF.out]; exact of_decide_eq_false hr))
          clear HI HC
          go_wp2
          rw [show ((i : Int) + 1) = ((i + 1 : Nat) : Int) by omega]
          exact ⟨⟨i + 1, rfl, H, NI⟩, MS.out⟩
        | true =>
          have B6d : Below wr.heap.size wr w6.drew := B06.out.trans ((Below.refl _ _).drew)
          have C6 := HC.out.below B6d
          have ltp : (cvE E x).fr < (cvE E x).to := by rw [hF.out]; exact of_decide_eq_true hr
          have nmk : txOk x.nm := MX.out.1.nm
          have lnk : (cvN E (m.L.take i) x.nm).length + 1 ≤ 2000000000000 := by
            have := cvN_len E (m.L.take i) x.nm
            rw [List.length_take] at this
            have := HN.out
            omega
          obtain ⟨sv, y1, v2, y2, y3, g1, bb1, g2, k2, m2, g3, b3, C7⟩ := C6.push (Nat.le_trans hbl.out.size B6d.size) nmk okp lnk
          have NI := hidMk (show CvS w fm E (m.L.take (i + 1)) y3 by
            rw [TK.out]
            exact CvS.more hF.out ltp C7 ((hbl.out.trans (B6d.mono hbl.out.size)).trans b3))
          have ow : ∀ j, (uV D x.nm).ownBlock = some j → j < wr.heap.size := fun j hj => (HC.out.own x.nm).lt hj
          have ne1 : (uV D x.nm).ownBlock ≠ some wr.heap.size := fun e => Nat.lt_irrefl _ (ow _ e)
          have ne2 : (uV D x.nm).ownBlock ≠ some pb := fun e => Nat.lt_irrefl _ (Nat.lt_of_lt_of_le (ow _ e) PB.out)
          have X6 : RM.Bx w6.drew wr.heap.size x := BX6.out
          have P6 : RSp.Bx w6.drew pb ⟨fi, ti, x.nm, x.v⟩ := HB6.out
          have l1 := (Array.getElem?_eq_some_iff.1 X6).1
          have l2 := (Array.getElem?_eq_some_iff.1 P6).1
          have S2 : M.MapAt y2 fm tx txOk D ∧ RM.Bx y2 wr.heap.size x ∧ RSp.Bx y2 pb ⟨fi, ti, x.nm, x.v⟩ := ⟨m2, (k2 _ l1 ne1).trans X6, (k2 _ l2 ne2).trans P6⟩
          have S1 : M.MapAt y1 fm tx txOk D ∧ RM.Bx y1 wr.heap.size x ∧ RSp.Bx y1 pb ⟨fi, ti, x.nm, x.v⟩ := ⟨C6.m.below (bb1.block _ C6.m.lt), X6.below bb1, P6.below bb1⟩
          have S0 : M.MapAt w6.drew fm tx txOk D ∧ RM.Bx w6.drew wr.heap.size x ∧ RSp.Bx w6.drew pb ⟨fi, ti, x.nm, x.v⟩ := ⟨C6.m, X6, P6⟩
          clear HI HC B6d C6 ltp lnk bb1 k2 m2 b3 C7 ow ne1 ne2 X6 P6 l1 l2 B06 BX6 HB6
          go_upto_region 8 with fail
          refine cvr8 (fm := fm) (eb := wr.heap.size) (sb := pb) (p := ⟨fi, ti, x.nm, x.v⟩) (x := x) (u := uV D x.nm) (sv := sv) (v2 := v2) (w1 := y1) (w2 := y2) (w3 := y3) (fun W => M.MapAt W fm tx txOk D ∧ RM.Bx W wr.heap.size x ∧ RSp.Bx W pb ⟨fi, ti, x.nm, x.v⟩) _ w6 _ rfl rfl rfl rfl S0 (fun W q => mk_nm MX.out.1 (RowT.Bx.rng q.2.1)) (fun W q => RowT.ld RSp_is okp (RowT.Bx.rng q.2.2)) (fun W q => CmAt.lookr q.1 nmk) g1 S1 g2 S2 g3 ?_
          intro a' w3 hw ha
          obtain rfl : y3 = w3 := hw.symm
          subst ha
          simp only [Act.put, List.setIfInBounds_toArray, List.set_cons_zero, List.set_cons_succ]
          clear g1 g2 g3 S0 S1 S2
          go_wp2
          rw [show ((i : Int) + 1) = ((i + 1 : Nat) : Int) by omega]
          exact ⟨⟨i + 1, rfl, H, NI⟩, MS.out⟩
    · have h' : ¬ ((i : Int) < (n : Int)) := by omega
      obtain rfl : i = n := by omega
      go_wp2
      go_ret
      refine ⟨_, rfl, ?_⟩
      have := HI.out
      rw [List.take_of_length_le (by have := HN.out; omega)] at this
      exact this
theorem cvN_okP {w : World} {pv : Value} {E : List Elt} (h : PV w pv E) {L : List MkV} (ok : ∀ x ∈ L, x.ok) (rt : ∀ x ∈ L, x.v.right = true) (hn : L.length ≤ 900000000000) {nm : ByteArray} (hne : cvN E L nm ≠ []) : CvOk (cvN E L nm) nm where
  ok := fun c hc => by
    obtain ⟨x, hx, rfl⟩ := cvN_mem hc
    exact cvE_okP h (ok x hx)
  rt := fun c hc => by
    obtain ⟨x, hx, rfl⟩ := cvN_mem hc
    exact rt x hx
  nm := cvN_nm
  lt := cvN_lt
  ne := hne
  len := Nat.le_trans (cvN_len E L nm) hn
set_option maxHeartbeats 8000000 in
theorem Spans_anyP {w : World} {pv : Value} {E : List Elt} {base : Nat} {m : Mx} (h : PV w pv E) (hm : MkAt w base m) (rt : ∀ x ∈ m.L, x.v.right = true) (hT : K.V.Tabs w) :
    Calls Tryz.prog 25 #[.pointer (some ⟨m.mb, 0, none⟩), pv] w fun e w' => ∃ v, e = .returned v ∧ SpR w E m.L v w' := by
  have CK := hidMk (fun nm (q : cvN E m.L nm ≠ []) => cvN_okP h (L := m.L) (fun x hx => (hm.ok x hx).1) rt hm.n (nm := nm) q)
  have HN := hidMk hm.n
  have HT := hidMk (fun (W : World) (b : Below w.heap.size w W) => hT.below b)
  have CC := hidMk ((covers_anyP h hm).mono (R' := fun e w1 => ∃ fm, e = .returned (.map (some fm)) ∧ ∃ rb w2, (Instr.range 117 (.map (some fm))).run Tryz.prog w1 = .ok (.pointer (some ⟨rb, 0, none⟩)) w2 ∧ ∃ D, SpI w E m.L fm rb D [] D (.slice none 0 0) w2) (fun e w1 q => by
    obtain ⟨fm, rfl, D, c, b⟩ := q
    obtain ⟨w2, er, it, z, b2⟩ := M.range_any (P := Tryz.prog) Tryz.underlying117 c.m
    exact ⟨fm, rfl, _, w2, er, D, c.below b2, it, RowT.own_nil _ _ _, by simp, fun _ q => q, fun _ _ _ _ _ q => (by cases q), b.size, b.trans (b2.mono b.size)⟩))
  clear h hm rt hT
  go_enter Tryz.func25, Tryz.ntmps25
  go_upto_region 4 with fail
  refine spn4n (mb := m.mb) (sp := pv) (fun fm rb w2 => ∃ D, SpI w E m.L fm rb D [] D (.slice none 0 0) w2) _ w _ rfl rfl rfl CC.out ?_
  rintro fm rb a' w2 ⟨D, hI⟩ ha
  subst ha
  simp only [Act.put, List.setIfInBounds_toArray, List.set_cons_zero, List.set_cons_succ]
  clear CC
  have I0 := hidMk hI
  clear hI
  go_wp2
  go_loopw [5] (fun v5 wr => ∃ (X : List ByteArray) (T : List (ByteArray × Value)), Hid (SpI w E m.L fm rb D X T v5 wr)) (fun _ wr => wr.rangeLeft fm rb)
  case atStart => exact ⟨[], D, I0⟩
  case round =>
    clear I0
    obtain ⟨X, T, HI⟩ := hrel
    rcases M.next_any (P := Tryz.prog) (ty := 0) HI.out.it with ⟨rfl, hnx⟩ | ⟨A, p, B, w5, hTe, hnx, it5, now5, t5, z5⟩
    · go_upto_region 5 with fail
      refine spn5f (rb := rb) _ wr _ rfl rfl hnx ?_
      intro a' w3 hw ha
      obtain rfl : wr = w3 := hw.symm
      subst ha
      simp only [Act.put, List.setIfInBounds_toArray, List.set_cons_zero, List.set_cons_succ]
      clear hnx
      have CS := hidMk (sortSp_any wr w.heap.size u5 _ HI.out.row.lo (HI.out.rok CK.out) (Nat.le_trans HI.out.few (by have := HN.out; omega)))
      go_upto_region 8 with fail
      refine spn8 (lv := u5) (fun W => SpR w E m.L u5 W) _ wr _ rfl rfl (CS.out.mono ?_) ?_
      · rintro e W ⟨rfl, S, hp, hs, lo, t⟩
        obtain ⟨q1, q2, q3⟩ := HI.out.done CK.out hp hs
        exact ⟨rfl, S, lo, q1, q2, q3, HI.out.bel.trans (t.below HI.out.bel.size (fun j hj => (HI.out.row.cells hj).1))⟩
      rintro a' w4 hf ha
      have HF := hidMk hf
      subst ha
      simp only [Act.put, List.setIfInBounds_toArray, List.set_cons_zero, List.set_cons_succ]
      clear CS hf
      go_wp2
      go_ret
      exact ⟨_, rfl, HF.out⟩
    · obtain ⟨cm5, row5, b5⟩ := HI.out.next hTe it5 t5
      have hml := iter_left HI.out.it
      have hpD : p ∈ D := HI.out.sub p (by rw [hTe]; simp)
      have hlk := M.look_of_mem cm5.m.2.1 (k := p.1) (v := p.2) hpD
      obtain ⟨rw5, ne5⟩ := cm5.rows p.1 p.2 hlk
      have ck := CK.out p.1 ne5
      obtain ⟨pa, pc, ep, hat, _⟩ := rw5.open RSp_is ck.ok
      have RA := runs_any (lc := pc) hat ck (HT.out w5 b5)
      have CR : Calls Tryz.prog 64 #[p.2] w5 fun e w1 => ∃ u, e = .returned u ∧ ∃ v2 w2, (Builtin.append_ #[49, 49] 49 #[u5, u]).run Tryz.prog w1 = .ok v2 w2 ∧ SpI w E m.L fm rb D (X ++ [p.1]) (A ++ B) v2 w2 := by
        rw [ep]
        refine RA.mono ?_
        rintro e W ⟨u, rfl, o, b⟩
        obtain ⟨v2, W3, ea, nx⟩ := HI.out.more hTe it5 cm5 row5 b5 b5.size b o (fun q hq => (ck.all q hq).1) HN.out
        exact ⟨u, rfl, v2, W3, ea, nx⟩
      have HC := hidMk CR
      have EE := now5.run (P := Tryz.prog)
      have HML := hidMk (show wr.rangeLeft fm rb = A.length + B.length + 1 by rw [hml, hTe]; simp; omega)
      clear cm5 row5 b5 hml hpD hlk rw5 ne5 ck ep hat RA CR it5 now5 t5 z5 hTe HI
      go_upto_region 5 with fail
      refine spn5t (rb := rb) (kx := tx p.1) (vx := p.2) (w1 := w5) _ wr _ rfl rfl hnx ?_
      intro a' w3 hw ha
      obtain rfl : w5 = w3 := hw.symm
      subst ha
      simp only [Act.put, List.setIfInBounds_toArray, List.set_cons_zero, List.set_cons_succ]
      clear hnx
      go_upto_region 6 with fail
      refine spn6 (rb := rb) (kx := tx p.1) (vx := p.2) _ w5 _ rfl rfl EE ?_
      intro a' w3 hw ha
      obtain rfl : w5 = w3 := hw.symm
      subst ha
      simp only [Act.put, List.setIfInBounds_toArray, List.set_cons_zero, List.set_cons_succ]
      clear EE
      go_upto_region 7 with fail
      refine spn7 (lv := u5) (cv := p.2) (fun u v2 W => SpI w E m.L fm rb D (X ++ [p.1]) (A ++ B) v2 W) _ w5 _ rfl rfl rfl HC.out ?_
      rintro u v2 a' w6 hf ha
      have NI := hidMk hf
      have ML : w6.rangeLeft fm rb < wr.rangeLeft fm rb := by
        rw [iter_left hf.it, HML.out]
        simp
      have HM := hidMk ML
      subst ha
      simp only [Act.put, List.setIfInBounds_toArray, List.set_cons_zero, List.set_cons_succ]
      clear HC hf ML
      go_wp2
      exact ⟨⟨_, _, NI⟩, HM.out⟩
end
end Go.Proofs.YtifendlpeebofaaGreatDoor
