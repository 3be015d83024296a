import Derived.Test.YtgiblfhajiakgaaGreatDoorHk
import Derived.Test.YtgiblfhajiakgaaGreatDoorKKm
import Derived.Test.YtgiblfhajiakgaaGreatDoorNr
import Derived.Deep.Cut
namespace Go.Proofs.YtgiblfhajiakgaaGreatDoor
open Go.RowKit
set_option linter.unusedVariables false
set_option linter.unusedSimpArgs false

section
variable {P : Program}
/-- A whole row out of the middle of a block, guarded or not. -/
theorem wpList_load_midG {ops : Array Oper} {rest : List Oper} {o : Oper} {a : Act} {w : World} {Q : Exit → Act → World → Prop} (hw : Region.wanted o (yielded ops a.tmps) = true) (ty : TypeId) (x : Operand) (ho : o.op = .load ty x)
    (b j : Nat) (hx : a.eval x = .pointer (some ⟨b, j, none⟩)) (cs : List Value) (d : TypeDesc) (hS : w.rangeAt b j cs)
    (hu : P.underlying ty = some d) (hd : d.isRow = true) (hi : (P.info? ty).map (·.size) = some cs.length)
    (h : wpList P ops Q rest (a.put o.dst (.agg cs.toArray)) w) : wpList P ops Q (o :: rest) a w :=
  wpList_wanted hw fun _ hK => by
    unfold Oper.wp execOp
    simp only [ho, hx, Instr.loadAt, Instr.sureAddr, Sem.run_bind, Sem.run_pure, Result.andThen_ok, run_loadVar_mid w b j ty cs d hS hu hd hi]
    exact hK _ _ h
end

/-- What a read has answered, as cells. -/
def gL (b v u n f s r : Value) (h : List UInt8) (l : Value) : List Value := b :: v :: u :: n :: f :: s :: r :: (hcs h ++ [l])
def gC (b v u n f s r : Value) (h : List UInt8) (l : Value) : Array Value := (gL b v u n f s r h l).toArray
section
variable {b v u n f s r l : Value} {h : List UInt8}
theorem gL_len (hh : h.length = 32) : (gL b v u n f s r h l).length = 40 := by simp [gL, hcs_len, hh]
theorem gC_size (hh : h.length = 32) : (gC b v u n f s r h l).size = 40 := by simp [gC, gL, hcs_len, hh]
theorem gC_39 (hh : h.length = 32) : (gC b v u n f s r h l)[39]? = some l := by
  simp [gC, gL]
  rw [List.getElem?_append_right (by rw [hcs_len, hh]; omega), hcs_len, hh]
  rfl
theorem gC_hash (hh : h.length = 32) (j : Nat) (x : Value) (hx : (hcs h)[j]? = some x) : (gC b v u n f s r h l)[7 + j]? = some x := by
  have hj : j < (hcs h).length := (List.getElem?_eq_some_iff.1 hx).1
  unfold gC gL
  rw [show 7 + j = j + 1 + 1 + 1 + 1 + 1 + 1 + 1 by omega]
  simp only [List.getElem?_toArray, List.getElem?_cons_succ]
  rw [List.getElem?_append_left hj]
  exact hx
end
theorem sizeGot : (Tryz.prog.info? 76).map (·.size) = some 40 := by kernel_rfl
/-- A block of such cells: its fields. -/
structure GotAt (w : World) (g : Nat) (b v u n f s r : Value) (h : List UInt8) (l : Value) : Prop where
  c0 : w.cell? ⟨g, 0, none⟩ = some b
  c1 : w.cell? ⟨g, 1, none⟩ = some v
  c2 : w.cell? ⟨g, 2, none⟩ = some u
  c3 : w.cell? ⟨g, 3, none⟩ = some n
  c4 : w.cell? ⟨g, 4, none⟩ = some f
  c5 : w.cell? ⟨g, 5, none⟩ = some s
  c6 : w.cell? ⟨g, 6, none⟩ = some r
  ch : w.rangeAt g 7 (hcs h)
  c39 : w.cell? ⟨g, 39, none⟩ = some l
theorem gotAt_row {w : World} {g : Nat} {b v u n f s r l : Value} {h : List UInt8} {C : Array Value} {t : TypeId} {fr : Nat × Nat} (hh : h.length = 32) (hg : w.heap[g]? = some (.cells C t fr)) (hC : C = gC b v u n f s r h l) : GotAt w g b v u n f s r h l := by
  subst hC
  have key : ∀ i x, (gC b v u n f s r h l)[i]? = some x → w.cell? ⟨g, i, none⟩ = some x := fun i x hx => (cell_of_row w g i _ _ _ hg).trans hx
  exact ⟨key 0 _ rfl, key 1 _ rfl, key 2 _ rfl, key 3 _ rfl, key 4 _ rfl, key 5 _ rfl, key 6 _ rfl, fun j x hx => key (7 + j) x (gC_hash hh j x hx), key 39 _ (gC_39 hh)⟩
theorem GotAt.below {w w' : World} {B g : Nat} {b v u n f s r l : Value} {h : List UInt8} (k : GotAt w g b v u n f s r h l) (hb : Below B w w') (hg : g < B) : GotAt w' g b v u n f s r h l := by
  have key : ∀ i x, w.cell? ⟨g, i, none⟩ = some x → w'.cell? ⟨g, i, none⟩ = some x := fun i x hx => (hb.cell (p := ⟨g, i, none⟩) hg).trans hx
  exact ⟨key _ _ k.c0, key _ _ k.c1, key _ _ k.c2, key _ _ k.c3, key _ _ k.c4, key _ _ k.c5, key _ _ k.c6, rangeAt_below k.ch hb hg, key _ _ k.c39⟩

set_option maxRecDepth 100000 in
set_option maxHeartbeats 4000000 in
/-- Two answers that are alike are the same. -/
theorem same_true (b u n : Int) (v : Bool) (f : Nat) (s : ByteArray) (a1 a2 : Option Addr) (m c1 c2 : Nat) (R h : List UInt8) (l1 l2 : Option Addr) (k d1 d2 : Nat) (L : List (List UInt8)) (w : World)
    (hR : R.length = m) (hm : m ≤ 140737488351232) (hr1 : K.Byt w a1 R) (hr2 : K.Byt w a2 R) (hh : h.length = 32) (hL : All32 L) (hk : L.length = k) (hkb : k ≤ 4398046511104) (hl1 : Hl w l1 L) (hl2 : Hl w l2 L)
    (HV : Hid (∀ wx, Calls Tryz.prog 82 #[K.VV 0 0 f ⟨#[]⟩, K.VV 0 0 f ⟨#[]⟩] wx fun e w' => e = .returned (.bool true) ∧ Below wx.heap.size wx w')) :
    Calls Tryz.prog 22 #[.agg (gC (.int .u8 b) (.bool v) (.int .u64 u) (.int .i64 n) (.float .f64 f) (.string s) (.slice a1 m c1) h (.slice l1 k d1)), .agg (gC (.int .u8 b) (.bool v) (.int .u64 u) (.int .i64 n) (.float .f64 f) (.string s) (.slice a2 m c2) h (.slice l2 k d2))] w fun e w' => e = .returned (.bool true) ∧ Below w.heap.size w w' := by
  obtain ⟨CA, hCA⟩ : ∃ C, C = gC (.int .u8 b) (.bool v) (.int .u64 u) (.int .i64 n) (.float .f64 f) (.string s) (.slice a1 m c1) h (.slice l1 k d1) := ⟨_, rfl⟩
  obtain ⟨CB, hCB⟩ : ∃ C, C = gC (.int .u8 b) (.bool v) (.int .u64 u) (.int .i64 n) (.float .f64 f) (.string s) (.slice a2 m c2) h (.slice l2 k d2) := ⟨_, rfl⟩
  rw [← hCA, ← hCB]
  have be0 : Below w.heap.size w ((w.alloc (.cells CA 76)).alloc (.cells CB 76)) := ((Below.refl _ _).alloc (Nat.le_refl _) _).alloc (by simp) _
  have g0 : ((w.alloc (.cells CA 76)).alloc (.cells CB 76)).heap[w.heap.size]? = some (.cells CA 76 (0, 0)) := heap_alloc2_old _ _ _
  have g1 : ((w.alloc (.cells CA 76)).alloc (.cells CB 76)).heap[w.heap.size + 1]? = some (.cells CB 76 (0, 0)) := heap_alloc2_new _ _ _
  have zz : ((w.alloc (.cells CA 76)).alloc (.cells CB 76)).heap.size = w.heap.size + 2 := by simp
  have GA := K.Hid.mk' (gotAt_row hh g0 hCA)
  have GB := K.Hid.mk' (gotAt_row hh g1 hCB)
  clear g0 g1 hCA hCB
  have HE : Hid (∀ wx, (Op.equalIn 10000 36 (.agg (bs h)) (.agg (bs h))).run Tryz.prog wx = .ok true wx) := fun wx => by
    have := eq23 h h hh hh wx
    simpa using this
  have BW : Hid (Below w.heap.size w ((w.alloc (.cells CA 76)).alloc (.cells CB 76))) := be0
  have ZZ : Hid (w.heap.size + 1 < ((w.alloc (.cells CA 76)).alloc (.cells CB 76)).heap.size) := by show _ < _; omega
  have HR := K.Hid.mk' hR
  have HR1 := K.Hid.mk' hr1
  have HR2 := K.Hid.mk' hr2
  have HK := K.Hid.mk' hk
  have HL1 := K.Hid.mk' hl1
  have HL2 := K.Hid.mk' hl2
  clear be0 zz hR hr1 hr2 hk hl1 hl2
  go_enter Tryz.func22, Tryz.ntmps22
  go_upto_region 1 with fail
  generalize ((w.alloc (.cells CA 76)).alloc (.cells CB 76)) = W at *
  obtain ⟨p0, p1, p2, p3, p4, p5, p6, ph, p39⟩ := GA.out
  obtain ⟨q0, q1, q2, q3, q4, q5, q6, qh, q39⟩ := GB.out
  go_wp2_with fail
  refine (HV.out _).mono ?_
  rintro e w1 ⟨rfl, b1⟩
  clear p0 p1 p2 p3 p4 p5 p6 ph p39 q0 q1 q2 q3 q4 q5 q6 qh q39
  obtain ⟨_, _, _, _, _, p5, p6, ph, p39⟩ := GA.out.below b1 (by have := ZZ.out; omega)
  obtain ⟨_, _, _, _, _, q5, q6, qh, q39⟩ := GB.out.below b1 ZZ.out
  have BX : Hid (Below W.heap.size W w1) := b1
  have B1 : Hid (Below w.heap.size w w1) := BW.out.trans (b1.mono BW.out.size)
  have HS := K.Hid.mk' (K.same_any a1 a2 R m c1 c2 w1 HR.out (K.byt_below HR1.out B1.out) (K.byt_below HR2.out B1.out) hm)
  clear b1
  go_wp2_with fail
  refine HS.out.mono ?_
  rintro e w2 ⟨rfl, m2, hm2⟩
  have b2 : Below w1.heap.size w1 w2 := by rw [hm2]; exact below_drewN' (Below.refl _ _) _
  have BY : Hid (Below W.heap.size W w2) := BX.out.trans (b2.mono BX.out.size)
  have B2 : Hid (Below w.heap.size w w2) := B1.out.trans (b2.mono B1.out.size)
  clear p5 p6 ph p39 q5 q6 qh q39 hm2 b2 BX HS
  obtain ⟨_, _, _, _, _, _, _, ph, p39⟩ := GA.out.below BY.out (by have := ZZ.out; omega)
  obtain ⟨_, _, _, _, _, _, _, qh, q39⟩ := GB.out.below BY.out ZZ.out
  have PH := K.Hid.mk' ph
  have QH := K.Hid.mk' qh
  have HS := K.Hid.mk' (sameH_any l1 l2 L L d1 d2 w2 hL hL (by rw [HK.out]; exact hkb) (HL1.out.below hL B2.out) (HL2.out.below hL B2.out))
  simp only [HK.out, decide_true] at HS
  have eqq := HE.out
  clear ph qh
  go_wp2_with (first
    | (refine wpList_load_midG rfl 36 _ rfl w.heap.size 7 rfl (hcs h) _ PH.out Tryz.underlying36 rfl (by rw [hcs_len, hh]; exact hsH) ?_; rw [hcs_arr])
    | (refine wpList_load_midG rfl 36 _ rfl (w.heap.size + 1) 7 rfl (hcs h) _ QH.out Tryz.underlying36 rfl (by rw [hcs_len, hh]; exact hsH) ?_; rw [hcs_arr])
    | fail)
  refine HS.out.mono ?_
  rintro e w3 ⟨rfl, m3, hm3⟩
  have b3 : Hid (Below w.heap.size w w3) := by show Below _ _ _; rw [hm3]; exact below_drewN' B2.out _
  clear hm3 p39 q39 HS eqq
  go_wp2
  go_ret
  exact ⟨rfl, b3.out⟩
end Go.Proofs.YtgiblfhajiakgaaGreatDoor
