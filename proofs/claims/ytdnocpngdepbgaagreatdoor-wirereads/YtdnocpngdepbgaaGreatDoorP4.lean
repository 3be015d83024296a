import Derived.Test.YtdnocpngdepbgaaGreatDoorP3
import Derived.Test.YtdnocpngdepbgaaGreatDoorHl
import Derived.Deep.Cut
namespace Go.Proofs.YtdnocpngdepbgaaGreatDoor
open Go.RowKit
set_option linter.unusedVariables false
set_option linter.unusedSimpArgs false

/-! A nil Reader. -/
set_option maxRecDepth 100000 in
theorem nstop (w : World) : Calls Tryz.prog 104 #[.pointer none] w fun x w' => x = .returned (.bool true) ∧ w' = w := by
  go_enter Tryz.func104, Tryz.ntmps104
  go_wp2
  go_ret
  exact ⟨rfl, rfl⟩
set_option maxRecDepth 100000 in
theorem nrbyte (w : World) : Calls Tryz.prog 75 #[.pointer none] w fun x w' => x = .returned (.int .u8 0) ∧ w' = w := by
  go_enter Tryz.func75, Tryz.ntmps75
  go_wp2_with fail
  refine (nstop _).mono ?_
  rintro x w1 ⟨rfl, h1⟩
  subst h1
  go_wp2
  go_ret
  exact ⟨rfl, rfl⟩
set_option maxRecDepth 100000 in
theorem nrbool (w : World) : Calls Tryz.prog 76 #[.pointer none] w fun x w' => x = .returned (.bool false) ∧ w' = w := by
  go_enter Tryz.func76, Tryz.ntmps76
  go_wp2_with fail
  refine (nstop _).mono ?_
  rintro x w1 ⟨rfl, h1⟩
  subst h1
  go_wp2
  go_ret
  exact ⟨rfl, rfl⟩
set_option maxRecDepth 100000 in
theorem nrfix (w : World) : Calls Tryz.prog 77 #[.pointer none] w fun x w' => x = .returned (.int .u32 0) ∧ w' = w := by
  go_enter Tryz.func77, Tryz.ntmps77
  go_wp2_with fail
  refine (nstop _).mono ?_
  rintro x w1 ⟨rfl, h1⟩
  subst h1
  go_wp2
  go_ret
  exact ⟨rfl, rfl⟩
set_option maxRecDepth 100000 in
theorem nruint (m : Int) (w : World) : Calls Tryz.prog 30 #[.pointer none, .int .u64 m] w fun x w' => x = .returned (.int .u64 0) ∧ w' = w := by
  go_enter Tryz.func30, Tryz.ntmps30
  go_wp2_with fail
  refine (nstop _).mono ?_
  rintro x w1 ⟨rfl, h1⟩
  subst h1
  go_wp2
  go_ret
  exact ⟨rfl, rfl⟩
set_option maxRecDepth 100000 in
theorem nrfloat (w : World) : Calls Tryz.prog 33 #[.pointer none] w fun x w' => x = .returned (.float .f64 0) ∧ w' = w := by
  go_enter Tryz.func33, Tryz.ntmps33
  go_wp2_with fail
  refine (nstop _).mono ?_
  rintro x w1 ⟨rfl, h1⟩
  subst h1
  go_wp2
  go_ret
  exact ⟨rfl, rfl⟩
set_option maxRecDepth 100000 in
theorem nrtext (m : Int) (w : World) : Calls Tryz.prog 32 #[.pointer none, .int .i64 m] w fun x w' => x = .returned (.string ⟨#[]⟩) ∧ w' = w := by
  go_enter Tryz.func32, Tryz.ntmps32
  go_wp2_with fail
  refine (nstop _).mono ?_
  rintro x w1 ⟨rfl, h1⟩
  subst h1
  go_wp2
  go_ret
  exact ⟨rfl, rfl⟩
set_option maxRecDepth 100000 in
theorem nrraw (m : Int) (w : World) : Calls Tryz.prog 78 #[.pointer none, .int .i64 m] w fun x w' => x = .returned (.slice none 0 0) ∧ w' = w := by
  go_enter Tryz.func78, Tryz.ntmps78
  go_wp2_with fail
  refine (nstop _).mono ?_
  rintro x w1 ⟨rfl, h1⟩
  subst h1
  go_wp2
  go_ret
  exact ⟨rfl, rfl⟩
set_option maxRecDepth 100000 in
theorem nrhashes (m : Int) (w : World) : Calls Tryz.prog 80 #[.pointer none, .int .i64 m] w fun x w' => x = .returned (.slice none 0 0) ∧ w' = w := by
  go_enter Tryz.func80, Tryz.ntmps80
  go_wp2_with fail
  refine (nstop _).mono ?_
  rintro x w1 ⟨rfl, h1⟩
  subst h1
  go_wp2
  go_ret
  exact ⟨rfl, rfl⟩
set_option maxRecDepth 100000 in
theorem nrint (w : World) : Calls Tryz.prog 31 #[.pointer none] w fun x w' => x = .returned (.int .i64 0) ∧ w' = w := by
  go_enter Tryz.func31, Tryz.ntmps31
  go_wp2_with fail
  refine (nruint _ _).mono ?_
  rintro x w1 ⟨rfl, h1⟩
  subst h1
  go_wp2
  go_ret
  exact ⟨rfl, rfl⟩
set_option maxRecDepth 100000 in
theorem nrfail (e p : Int) (w : World) : Calls Tryz.prog 81 #[.pointer none, .int .i64 e, .int .i64 p] w fun x w' => x = .returned (.tuple #[]) ∧ w' = w := by
  go_enter Tryz.func81, Tryz.ntmps81
  go_wp2
  go_end0
  exact ⟨rfl, rfl⟩
set_option maxRecDepth 100000 in
theorem nrat (w : World) : Calls Tryz.prog 35 #[.pointer none] w fun x w' => x = .returned (.int .i64 0) ∧ w' = w := by
  go_enter Tryz.func35, Tryz.ntmps35
  go_wp2
  go_ret
  exact ⟨rfl, rfl⟩
set_option maxRecDepth 100000 in
theorem nrleft (w : World) : Calls Tryz.prog 99 #[.pointer none] w fun x w' => x = .returned (.int .i64 0) ∧ w' = w := by
  go_enter Tryz.func99, Tryz.ntmps99
  go_wp2
  go_ret
  exact ⟨rfl, rfl⟩
set_option maxRecDepth 100000 in
theorem nrfault (w : World) : Calls Tryz.prog 95 #[.pointer none] w fun x w' => x = .returned (.tuple #[.int .i64 1, .int .i64 0]) ∧ w' = w := by
  go_enter Tryz.func95, Tryz.ntmps95
  go_wp2
  go_ret2
  exact ⟨rfl, rfl⟩
set_option maxRecDepth 100000 in
theorem nrdone (w : World) : Calls Tryz.prog 34 #[.pointer none] w fun x w' => x = .returned (.tuple #[.int .i64 1, .int .i64 0]) ∧ ∃ m, w' = w.drewN m := by
  go_enter Tryz.func34, Tryz.ntmps34
  go_wp2_with fail
  refine (nrfault _).mono ?_
  rintro x w1 ⟨rfl, h1⟩
  subst h1
  go_wp2
  go_ret2
  exact ⟨rfl, 0, rfl⟩
theorem resRHashN (tmps : Array Value) (w : World) (g : Nat) (t : TypeId) (l : List UInt8) (hl : l.length = 32) (fr : Nat × Nat) (j : Nat) (hj : j = 2) (hp : tmps.getD j undef = .pointer (some ⟨g, 0, none⟩)) (hg : w.heap[g]? = some (.cells (bs l) t fr)) :
    (results Tryz.f79 tmps).run Tryz.prog w = .ok (.agg (bs l)) w := by
  subst hj
  exact results_cell_row Tryz.results79 tmps w g t (bs l) fr _ hp hg Tryz.underlying36 rfl (by rw [bs_size, hl]; exact hsH)
theorem below_setRowN (B : Nat) (w : World) (g : Nat) (cs : Array Value) (h : B ≤ g) : Below B w (w.setRow g cs) :=
  ⟨rfl, rfl, rfl, by simp, fun k hk => setRow_other w g k cs (by omega)⟩
theorem hbzN : Tryz.prog.built 36 [] = some (bs z32) := by kernel_rfl
set_option maxRecDepth 100000 in
set_option maxHeartbeats 1000000 in
theorem nrhash (w : World) : Calls Tryz.prog 79 #[.pointer none] w fun x w' => x = .returned (.agg (bs z32)) ∧ Below w.heap.size w w' := by
  have hzs : (bs z32).size = 32 := by rw [bs_size]; rfl
  have be0 : Below w.heap.size w (w.alloc (.cells (bs z32) 36)) := (Below.refl _ _).alloc (Nat.le_refl _) _
  have g0 : (w.alloc (.cells (bs z32) 36)).heap[w.heap.size]? = some (.cells (bs z32) 36 (0, 0)) := heap_alloc_new _ _
  generalize hW : w.alloc (.cells (bs z32) 36) = W at *
  go_enter Tryz.func79, Tryz.ntmps79
  go_wp2_with (first | (refine wpList_alloc_row rfl 36 rfl (bs z32) (hzH _) ?_; rw [hW]) | fail)
  refine (nstop _).mono ?_
  rintro e w1 ⟨rfl, hw1⟩
  subst hw1
  go_wp2_with (first
    | (refine wpList_build_row rfl 36 rfl (bs z32) hbzN ?_)
    | (refine wpList_store_row rfl 36 _ _ rfl w.heap.size (bs z32) rfl rfl 36 (bs z32) g0 (by rw [hzs]; exact hsH) rfl (bs_one _) ?_)
    | fail)
  exact bodyPost_ret (resRHashN _ _ w.heap.size 36 z32 z32_len (0, 0) 2 rfl rfl (setRow_heap _ _ _ _ _ _ g0)) rfl ⟨rfl, be0.trans (below_setRowN _ _ _ _ (Nat.le_refl _))⟩
end Go.Proofs.YtdnocpngdepbgaaGreatDoor

namespace Go.Proofs.YtdnocpngdepbgaaGreatDoor
open Go.RowKit
set_option linter.unusedVariables false
set_option linter.unusedSimpArgs false

section
variable {P : Program}
/-- A whole row out of the middle of a block, guarded or not. -/
theorem wpList_load_midG {ops : Array Oper} {rest : List Oper} {o : Oper} {a : Act} {w : World} {Q : Exit → Act → World → Prop} (hw : Region.wanted o (yielded ops a.tmps) = true) (ty : TypeId) (x : Operand) (ho : o.op = .load ty x)
    (b j : Nat) (hx : a.eval x = .pointer (some ⟨b, j, none⟩)) (cs : List Value) (d : TypeDesc) (hS : w.rangeAt b j cs)
    (hu : P.underlying ty = some d) (hd : d.isRow = true) (hi : (P.info? ty).map (·.size) = some cs.length)
    (h : wpList P ops Q rest (a.put o.dst (.agg cs.toArray)) w) : wpList P ops Q (o :: rest) a w :=
  wpList_wanted hw fun _ hK => by
    unfold Oper.wp execOp
    simp only [ho, hx, Instr.loadAt, Instr.sureAddr, Sem.run_bind, Sem.run_pure, Result.andThen_ok, run_loadVar_mid w b j ty cs d hS hu hd hi]
    exact hK _ _ h
end

/-- What a read has answered, as cells. -/
def gL (b v u n f s r : Value) (h : List UInt8) (l : Value) : List Value := b :: v :: u :: n :: f :: s :: r :: (hcs h ++ [l])
def gC (b v u n f s r : Value) (h : List UInt8) (l : Value) : Array Value := (gL b v u n f s r h l).toArray
section
variable {b v u n f s r l : Value} {h : List UInt8}
theorem gL_len (hh : h.length = 32) : (gL b v u n f s r h l).length = 40 := by simp [gL, hcs_len, hh]
theorem gC_size (hh : h.length = 32) : (gC b v u n f s r h l).size = 40 := by simp [gC, gL, hcs_len, hh]
theorem gC_39 (hh : h.length = 32) : (gC b v u n f s r h l)[39]? = some l := by
  simp [gC, gL]
  rw [List.getElem?_append_right (by rw [hcs_len, hh]; omega), hcs_len, hh]
  rfl
theorem gC_hash (hh : h.length = 32) (j : Nat) (x : Value) (hx : (hcs h)[j]? = some x) : (gC b v u n f s r h l)[7 + j]? = some x := by
  have hj : j < (hcs h).length := (List.getElem?_eq_some_iff.1 hx).1
  unfold gC gL
  rw [show 7 + j = j + 1 + 1 + 1 + 1 + 1 + 1 + 1 by omega]
  simp only [List.getElem?_toArray, List.getElem?_cons_succ]
  rw [List.getElem?_append_left hj]
  exact hx
end
theorem sizeGot : (Tryz.prog.info? 76).map (·.size) = some 40 := by kernel_rfl
/-- A block of such cells: its fields. -/
structure GotAt (w : World) (g : Nat) (b v u n f s r : Value) (h : List UInt8) (l : Value) : Prop where
  c0 : w.cell? ⟨g, 0, none⟩ = some b
  c1 : w.cell? ⟨g, 1, none⟩ = some v
  c2 : w.cell? ⟨g, 2, none⟩ = some u
  c3 : w.cell? ⟨g, 3, none⟩ = some n
  c4 : w.cell? ⟨g, 4, none⟩ = some f
  c5 : w.cell? ⟨g, 5, none⟩ = some s
  c6 : w.cell? ⟨g, 6, none⟩ = some r
  ch : w.rangeAt g 7 (hcs h)
  c39 : w.cell? ⟨g, 39, none⟩ = some l
theorem gotAt_row {w : World} {g : Nat} {b v u n f s r l : Value} {h : List UInt8} {C : Array Value} {t : TypeId} {fr : Nat × Nat} (hh : h.length = 32) (hg : w.heap[g]? = some (.cells C t fr)) (hC : C = gC b v u n f s r h l) : GotAt w g b v u n f s r h l := by
  subst hC
  have key : ∀ i x, (gC b v u n f s r h l)[i]? = some x → w.cell? ⟨g, i, none⟩ = some x := fun i x hx => (cell_of_row w g i _ _ _ hg).trans hx
  exact ⟨key 0 _ rfl, key 1 _ rfl, key 2 _ rfl, key 3 _ rfl, key 4 _ rfl, key 5 _ rfl, key 6 _ rfl, fun j x hx => key (7 + j) x (gC_hash hh j x hx), key 39 _ (gC_39 hh)⟩
theorem GotAt.below {w w' : World} {B g : Nat} {b v u n f s r l : Value} {h : List UInt8} (k : GotAt w g b v u n f s r h l) (hb : Below B w w') (hg : g < B) : GotAt w' g b v u n f s r h l := by
  have key : ∀ i x, w.cell? ⟨g, i, none⟩ = some x → w'.cell? ⟨g, i, none⟩ = some x := fun i x hx => (hb.cell (p := ⟨g, i, none⟩) hg).trans hx
  exact ⟨key _ _ k.c0, key _ _ k.c1, key _ _ k.c2, key _ _ k.c3, key _ _ k.c4, key _ _ k.c5, key _ _ k.c6, rangeAt_below k.ch hb hg, key _ _ k.c39⟩

set_option maxRecDepth 100000 in
set_option maxHeartbeats 4000000 in
/-- Two answers that are alike are the same. -/
theorem same_true (b u n : Int) (v : Bool) (f : Nat) (s : ByteArray) (a1 a2 : Option Addr) (m c1 c2 : Nat) (R h : List UInt8) (l1 l2 : Option Addr) (k d1 d2 : Nat) (L : List (List UInt8)) (w : World)
    (hR : R.length = m) (hm : m ≤ 140737488351232) (hr1 : K.Byt w a1 R) (hr2 : K.Byt w a2 R) (hh : h.length = 32) (hL : All32 L) (hk : L.length = k) (hkb : k ≤ 4398046511104) (hl1 : Hl w l1 L) (hl2 : Hl w l2 L)
    (HV : Hid (∀ wx, Calls Tryz.prog 82 #[K.VV 0 0 f ⟨#[]⟩, K.VV 0 0 f ⟨#[]⟩] wx fun e w' => e = .returned (.bool true) ∧ Below wx.heap.size wx w')) :
    Calls Tryz.prog 22 #[.agg (gC (.int .u8 b) (.bool v) (.int .u64 u) (.int .i64 n) (.float .f64 f) (.string s) (.slice a1 m c1) h (.slice l1 k d1)), .agg (gC (.int .u8 b) (.bool v) (.int .u64 u) (.int .i64 n) (.float .f64 f) (.string s) (.slice a2 m c2) h (.slice l2 k d2))] w fun e w' => e = .returned (.bool true) ∧ Below w.heap.size w w' := by
  obtain ⟨CA, hCA⟩ : ∃ C, C = gC (.int .u8 b) (.bool v) (.int .u64 u) (.int .i64 n) (.float .f64 f) (.string s) (.slice a1 m c1) h (.slice l1 k d1) := ⟨_, rfl⟩
  obtain ⟨CB, hCB⟩ : ∃ C, C = gC (.int .u8 b) (.bool v) (.int .u64 u) (.int .i64 n) (.float .f64 f) (.string s) (.slice a2 m c2) h (.slice l2 k d2) := ⟨_, rfl⟩
  rw [← hCA, ← hCB]
  have be0 : Below w.heap.size w ((w.alloc (.cells CA 76)).alloc (.cells CB 76)) := ((Below.refl _ _).alloc (Nat.le_refl _) _).alloc (by simp) _
  have g0 : ((w.alloc (.cells CA 76)).alloc (.cells CB 76)).heap[w.heap.size]? = some (.cells CA 76 (0, 0)) := heap_alloc2_old _ _ _
  have g1 : ((w.alloc (.cells CA 76)).alloc (.cells CB 76)).heap[w.heap.size + 1]? = some (.cells CB 76 (0, 0)) := heap_alloc2_new _ _ _
  have zz : ((w.alloc (.cells CA 76)).alloc (.cells CB 76)).heap.size = w.heap.size + 2 := by simp
  have GA := K.Hid.mk' (gotAt_row hh g0 hCA)
  have GB := K.Hid.mk' (gotAt_row hh g1 hCB)
  clear g0 g1 hCA hCB
  have HE : Hid (∀ wx, (Op.equalIn 10000 36 (.agg (bs h)) (.agg (bs h))).run Tryz.prog wx = .ok true wx) := fun wx => by
    have := eq23 h h hh hh wx
    simpa using this
  have BW : Hid (Below w.heap.size w ((w.alloc (.cells CA 76)).alloc (.cells CB 76))) := be0
  have ZZ : Hid (w.heap.size + 1 < ((w.alloc (.cells CA 76)).alloc (.cells CB 76)).heap.size) := by show _ < _; omega
  have HR := K.Hid.mk' hR
  have HR1 := K.Hid.mk' hr1
  have HR2 := K.Hid.mk' hr2
  have HK := K.Hid.mk' hk
  have HL1 := K.Hid.mk' hl1
  have HL2 := K.Hid.mk' hl2
  clear be0 zz hR hr1 hr2 hk hl1 hl2
  go_enter Tryz.func22, Tryz.ntmps22
  go_upto_region 1 with fail
  generalize ((w.alloc (.cells CA 76)).alloc (.cells CB 76)) = W at *
  obtain ⟨p0, p1, p2, p3, p4, p5, p6, ph, p39⟩ := GA.out
  obtain ⟨q0, q1, q2, q3, q4, q5, q6, qh, q39⟩ := GB.out
  go_wp2_with fail
  refine (HV.out _).mono ?_
  rintro e w1 ⟨rfl, b1⟩
  clear p0 p1 p2 p3 p4 p5 p6 ph p39 q0 q1 q2 q3 q4 q5 q6 qh q39
  obtain ⟨_, _, _, _, _, p5, p6, ph, p39⟩ := GA.out.below b1 (by have := ZZ.out; omega)
  obtain ⟨_, _, _, _, _, q5, q6, qh, q39⟩ := GB.out.below b1 ZZ.out
  have BX : Hid (Below W.heap.size W w1) := b1
  have B1 : Hid (Below w.heap.size w w1) := BW.out.trans (b1.mono BW.out.size)
  have HS := K.Hid.mk' (K.same_any a1 a2 R m c1 c2 w1 HR.out (K.byt_below HR1.out B1.out) (K.byt_below HR2.out B1.out) hm)
  clear b1
  go_wp2_with fail
  refine HS.out.mono ?_
  rintro e w2 ⟨rfl, m2, hm2⟩
  have b2 : Below w1.heap.size w1 w2 := by rw [hm2]; exact below_drewN' (Below.refl _ _) _
  have BY : Hid (Below W.heap.size W w2) := BX.out.trans (b2.mono BX.out.size)
  have B2 : Hid (Below w.heap.size w w2) := B1.out.trans (b2.mono B1.out.size)
  clear p5 p6 ph p39 q5 q6 qh q39 hm2 b2 BX HS
  obtain ⟨_, _, _, _, _, _, _, ph, p39⟩ := GA.out.below BY.out (by have := ZZ.out; omega)
  obtain ⟨_, _, _, _, _, _, _, qh, q39⟩ := GB.out.below BY.out ZZ.out
  have PH := K.Hid.mk' ph
  have QH := K.Hid.mk' qh
  have HS := K.Hid.mk' (sameH_any l1 l2 L L d1 d2 w2 hL hL (by rw [HK.out]; exact hkb) (HL1.out.below hL B2.out) (HL2.out.below hL B2.out))
  simp only [HK.out, decide_true] at HS
  have eqq := HE.out
  clear ph qh
  go_wp2_with (first
    | (refine wpList_load_midG rfl 36 _ rfl w.heap.size 7 rfl (hcs h) _ PH.out Tryz.underlying36 rfl (by rw [hcs_len, hh]; exact hsH) ?_; rw [hcs_arr])
    | (refine wpList_load_midG rfl 36 _ rfl (w.heap.size + 1) 7 rfl (hcs h) _ QH.out Tryz.underlying36 rfl (by rw [hcs_len, hh]; exact hsH) ?_; rw [hcs_arr])
    | fail)
  refine HS.out.mono ?_
  rintro e w3 ⟨rfl, m3, hm3⟩
  have b3 : Hid (Below w.heap.size w w3) := by show Below _ _ _; rw [hm3]; exact below_drewN' B2.out _
  clear hm3 p39 q39 HS eqq
  go_wp2
  go_ret
  exact ⟨rfl, b3.out⟩
end Go.Proofs.YtdnocpngdepbgaaGreatDoor

namespace Go.Proofs.YtdnocpngdepbgaaGreatDoor
open Go.RowKit
set_option linter.unusedVariables false
set_option linter.unusedSimpArgs false

@[go_sem] theorem run_store_float {P : Program} {w : World} {a : Addr} {m : Mode} (k : FloatKind) (b : Nat) : (store a (.float k b) m).run P w = stored P w a (.float k b) m := run_store P w a _ m rfl
/-- Blocks from z on are as they were. -/
structure Keeps (z : Nat) (w w' : World) : Prop where
  size : w.heap.size ≤ w'.heap.size
  block : ∀ k, z ≤ k → k < w.heap.size → w'.heap[k]? = w.heap[k]?
theorem Keeps.refl (z : Nat) (w : World) : Keeps z w w := ⟨Nat.le_refl _, fun _ _ _ => rfl⟩
theorem Keeps.of_below {z : Nat} {w w' : World} (h : Below w.heap.size w w') : Keeps z w w' := ⟨h.size, fun k _ hk => h.block k hk⟩
theorem Keeps.of_fr {z r : Nat} {w w' : World} (h : K.Fr r w w') (hr : r < z) : Keeps z w w' := ⟨h.size, fun k hk hk2 => h.block k hk2 (by omega)⟩
/-- All blocks but two are as they were. -/
structure Fx (z : Nat) (w w' : World) : Prop where
  os : w'.os = w.os
  tape : w'.tape = w.tape
  output : w'.output = w.output
  size : w'.heap.size = w.heap.size
  block : ∀ k, k ≠ z + 1 → k ≠ z + 2 → w'.heap[k]? = w.heap[k]?
theorem Fx.below {z B : Nat} {w w' : World} (h : Fx z w w') (hB : B ≤ z + 1) : Below B w w' := ⟨h.os, h.tape, h.output, by rw [h.size]; omega, fun k hk => h.block k (by omega) (by omega)⟩
theorem fx_end (z : Nat) (w : World) (c : Array Value) : Fx z w (w.setRow (z + 1) c) := ⟨rfl, rfl, rfl, by simp, fun k h1 _ => setRow_other w (z + 1) k c (by omega)⟩
theorem Fx.trans {z : Nat} {a b c : World} (h : Fx z a b) (k : Fx z b c) : Fx z a c := ⟨k.os.trans h.os, k.tape.trans h.tape, k.output.trans h.output, k.size.trans h.size, fun i h1 h2 => (k.block i h1 h2).trans (h.block i h1 h2)⟩
theorem fx_cell (z i : Nat) (w : World) (v : Value) : Fx z w (w.setCell ⟨z + 2, i, none⟩ v) := ⟨rfl, rfl, rfl, by simp [World.setCell], fun k _ h2 => Below.heap_setCell _ _ _ _ h2⟩
theorem fx_cells (z o : Nat) (vs : List Value) : ∀ (w : World), Fx z w (w.setCells (z + 2) o vs) := by
  induction vs generalizing o with
  | nil => exact fun w => ⟨rfl, rfl, rfl, rfl, fun _ _ _ => rfl⟩
  | cons v r ih => exact fun w => (fx_cell z o w v).trans (ih (o + 1) _)
theorem Fx.refl (z : Nat) (w : World) : Fx z w w := ⟨rfl, rfl, rfl, rfl, fun _ _ _ => rfl⟩

def gz : Array Value := gC (.int .u8 0) (.bool false) (.int .u64 0) (.int .i64 0) (.float .f64 0) (.string ⟨#[]⟩) (.slice none 0 0) z32 (.slice none 0 0)
theorem hzG (w : World) : (zeroValue 76).run Tryz.prog w = .ok (.agg gz) w := (zero_of_info (n := 40) (by kernel_rfl)).1 w
theorem gz_size : gz.size = 40 := gC_size z32_len
theorem gC_one {b v u n f s r l : Value} {h : List UInt8} (hb : b.oneCell' = true) (hv : v.oneCell' = true) (hu : u.oneCell' = true) (hn : n.oneCell' = true) (hf : f.oneCell' = true) (hs : s.oneCell' = true) (hr : r.oneCell' = true) (hl : l.oneCell' = true) : (gC b v u n f s r h l).all (·.oneCell') = true := by
  unfold gC gL
  simp only [List.all_toArray, List.all_cons, List.all_append, List.all_nil, hb, hv, hu, hn, hf, hs, hr, hl, Bool.true_and, Bool.and_true]
  rw [List.all_eq_true]
  exact hcs_one h
theorem resRead (tmps : Array Value) (w : World) (g : Nat) (t : TypeId) (C : Array Value) (hl : C.size = 40) (fr : Nat × Nat) (hp : tmps.getD 4 undef = .pointer (some ⟨g, 0, none⟩)) (hg : w.heap[g]? = some (.cells C t fr)) :
    (results Tryz.f21 tmps).run Tryz.prog w = .ok (.agg C) w :=
  results_cell_row Tryz.results21 tmps w g t C fr _ hp hg Tryz.underlying76 rfl (by rw [hl]; exact sizeGot)
theorem alloc3 (w : World) (a b c : Obj) : (((w.alloc a).alloc b).alloc c).heap[w.heap.size]? = some a ∧ (((w.alloc a).alloc b).alloc c).heap[w.heap.size + 1]? = some b ∧ (((w.alloc a).alloc b).alloc c).heap[w.heap.size + 2]? = some c ∧ (((w.alloc a).alloc b).alloc c).heap.size = w.heap.size + 3 := by
  refine ⟨?_, ?_, ?_, ?_⟩
  · show (((w.heap.push a).push b).push c)[w.heap.size]? = _
    rw [Array.getElem?_push_lt (by simp; omega), Array.getElem_push_lt (by simp), Array.getElem_push_eq]
  · show (((w.heap.push a).push b).push c)[w.heap.size + 1]? = _
    rw [Array.getElem?_push_lt (by simp)]
    have : ((w.heap.push a).push b)[(w.heap.push a).size]'(by simp) = b := Array.getElem_push_eq
    simpa using this
  · show (((w.heap.push a).push b).push c)[w.heap.size + 2]? = _
    rw [show w.heap.size + 2 = ((w.heap.push a).push b).size by simp, Array.getElem?_push_size]
  · show (((w.heap.push a).push b).push c).size = _
    simp
theorem bel3 (w : World) (a b c : Obj) : Below w.heap.size w (((w.alloc a).alloc b).alloc c) := (((Below.refl _ _).alloc (Nat.le_refl _) _).alloc (by simp) _).alloc (by simp; omega) _
/-- What stands behind a read: the three blocks of its own. -/
def Rdd (w : World) (Post : World → World → Prop) (w' : World) : Prop := ∃ wx w1, Below w.heap.size w wx ∧ wx.heap.size = w.heap.size + 3 ∧ Post wx w1 ∧ Fx w.heap.size w1 w'
theorem rd_blocks {w : World} {o c : Array Value} : ∃ wx, wx = (((w.alloc (.cells o 79)).alloc (.cells gz 76)).alloc (.cells gz 76)) ∧ Below w.heap.size w wx ∧ wx.heap.size = w.heap.size + 3 ∧ wx.heap[w.heap.size]? = some (.cells o 79 (0, 0)) ∧ wx.heap[w.heap.size + 1]? = some (.cells gz 76 (0, 0)) ∧ wx.heap[w.heap.size + 2]? = some (.cells gz 76 (0, 0)) := by
  obtain ⟨h1, h2, h3, h4⟩ := alloc3 w (.cells o 79) (.cells gz 76) (.cells gz 76)
  exact ⟨_, rfl, bel3 _ _ _ _, h4, h1, h2, h3⟩

set_option maxRecDepth 100000 in
set_option maxHeartbeats 2000000 in
theorem read_0 (ptr : Option Addr) (ou om oe : Int) (b : Int) (w : World) (Post : World → World → Prop)
    (H : ∀ wx, Below w.heap.size w wx → wx.heap.size = w.heap.size + 3 → Calls Tryz.prog 75 #[.pointer ptr] wx fun x w1 => x = .returned (.int .u8 b) ∧ Post wx w1 ∧ Keeps w.heap.size wx w1) :
    Calls Tryz.prog 21 #[.pointer ptr, .agg #[.int .i64 0, .int .u64 ou, .int .i64 om, .int .i64 oe]] w fun x w' => x = .returned (.agg (gC (.int .u8 b) (.bool false) (.int .u64 0) (.int .i64 0) (.float .f64 0) (.string ⟨#[]⟩) (.slice none 0 0) z32 (.slice none 0 0))) ∧ Rdd w Post w' := by
  obtain ⟨wx, hwx, bx, sx, hr, h1, h2⟩ := rd_blocks (w := w) (o := #[.int .i64 0, .int .u64 ou, .int .i64 om, .int .i64 oe]) (c := #[])
  have HC := K.Hid.mk' (H wx bx sx)
  have BX := K.Hid.mk' bx
  have SX := K.Hid.mk' sx
  have H1 := K.Hid.mk' h1
  have H2 := K.Hid.mk' h2
  have r0 := (cell_of_row wx w.heap.size 0 _ _ _ hr).trans (show (#[.int .i64 0, .int .u64 ou, .int .i64 om, .int .i64 oe] : Array Value)[0]? = some (.int .i64 0) from rfl)
  have r1 := (cell_of_row wx w.heap.size 1 _ _ _ hr).trans (show (#[.int .i64 0, .int .u64 ou, .int .i64 om, .int .i64 oe] : Array Value)[1]? = some (.int .u64 ou) from rfl)
  have r2 := (cell_of_row wx w.heap.size 2 _ _ _ hr).trans (show (#[.int .i64 0, .int .u64 ou, .int .i64 om, .int .i64 oe] : Array Value)[2]? = some (.int .i64 om) from rfl)
  clear H bx sx h1 h2 hr
  go_enter Tryz.func21, Tryz.ntmps21
  go_upto_region 2 with (first | (refine wpList_alloc_row rfl 76 rfl gz (hzG _) ?_) | fail)
  rw [← hwx]
  clear hwx
  go_wp2_with fail
  refine HC.out.mono ?_
  rintro x w1 ⟨rfl, hp, hk⟩
  have hs1 := hk.size
  have g1 : w1.heap[w.heap.size + 1]? = some (.cells gz 76 (0, 0)) := by rw [hk.block _ (by omega) (by rw [SX.out]; omega)]; exact H1.out
  have g2 : w1.heap[w.heap.size + 2]? = some (.cells gz 76 (0, 0)) := by rw [hk.block _ (by omega) (by rw [SX.out]; omega)]; exact H2.out
  have HP := K.Hid.mk' hp
  clear hp hk HC r0 r1 r2 hs1
  have ec : gz.setIfInBounds 0 (.int .u8 b) = gC (.int .u8 b) (.bool false) (.int .u64 0) (.int .i64 0) (.float .f64 0) (.string ⟨#[]⟩) (.slice none 0 0) z32 (.slice none 0 0) := rfl
  have q2 : (w1.setCell ⟨w.heap.size + 2, 0, none⟩ (.int .u8 b)).heap[w.heap.size + 2]? = some (.cells (gC (.int .u8 b) (.bool false) (.int .u64 0) (.int .i64 0) (.float .f64 0) (.string ⟨#[]⟩) (.slice none 0 0) z32 (.slice none 0 0)) 76 (0, 0)) := by rw [heap_setCell_same w1 _ 0 _ 76 _ g2, ec]
  have q1 : (w1.setCell ⟨w.heap.size + 2, 0, none⟩ (.int .u8 b)).heap[w.heap.size + 1]? = some (.cells gz 76 (0, 0)) := by rw [Below.heap_setCell _ _ _ _ (by show w.heap.size + 1 ≠ w.heap.size + 2; omega)]; exact g1
  have FX : Hid (Fx w.heap.size w1 (w1.setCell ⟨w.heap.size + 2, 0, none⟩ (.int .u8 b))) := fx_cell _ _ _ _
  have Q1 := K.Hid.mk' q1
  have Q2 := K.Hid.mk' q2
  have hcz : (gC (.int .u8 b) (.bool false) (.int .u64 0) (.int .i64 0) (.float .f64 0) (.string ⟨#[]⟩) (.slice none 0 0) z32 (.slice none 0 0)).size = 40 := gC_size z32_len
  have hco : (gC (.int .u8 b) (.bool false) (.int .u64 0) (.int .i64 0) (.float .f64 0) (.string ⟨#[]⟩) (.slice none 0 0) z32 (.slice none 0 0)).all (·.oneCell') = true := gC_one rfl rfl rfl rfl rfl rfl rfl rfl
  have c2 := (cell_of_row w1 (w.heap.size + 2) 0 _ _ _ g2).trans (rfl : gz[0]? = some (.int .u8 0))
  have f2 := frozen_of_row w1 (w.heap.size + 2) 0 _ _ g2
  clear g1 g2 q1 q2 ec
  generalize hgen : gC (.int .u8 b) (.bool false) (.int .u64 0) (.int .i64 0) (.float .f64 0) (.string ⟨#[]⟩) (.slice none 0 0) z32 (.slice none 0 0) = C at *
  have HG := K.Hid.mk' hgen
  clear hgen
  go_wp2_with (first
    | (refine wpList_load_arr rfl 76 _ rfl (w.heap.size + 2) rfl 76 C (0, 0) _ Q2.out Tryz.underlying76 rfl (by rw [hcz]; exact sizeGot) ?_)
    | (refine wpList_store_row rfl 76 _ _ rfl (w.heap.size + 1) C rfl rfl 76 gz Q1.out (by rw [hcz]; exact sizeGot) (by rw [gz_size, hcz]) hco ?_)
    | fail)
  exact bodyPost_ret (resRead _ _ (w.heap.size + 1) 76 C hcz (0, 0) rfl (setRow_heap _ _ _ _ _ _ Q1.out)) rfl ⟨by rw [HG.out], _, w1, BX.out, SX.out, HP.out, FX.out.trans (fx_end _ _ _)⟩

set_option maxRecDepth 100000 in
set_option maxHeartbeats 2000000 in
theorem read_1 (ptr : Option Addr) (ou om oe : Int) (v : Bool) (w : World) (Post : World → World → Prop)
    (H : ∀ wx, Below w.heap.size w wx → wx.heap.size = w.heap.size + 3 → Calls Tryz.prog 76 #[.pointer ptr] wx fun x w1 => x = .returned (.bool v) ∧ Post wx w1 ∧ Keeps w.heap.size wx w1) :
    Calls Tryz.prog 21 #[.pointer ptr, .agg #[.int .i64 1, .int .u64 ou, .int .i64 om, .int .i64 oe]] w fun x w' => x = .returned (.agg (gC (.int .u8 0) (.bool v) (.int .u64 0) (.int .i64 0) (.float .f64 0) (.string ⟨#[]⟩) (.slice none 0 0) z32 (.slice none 0 0))) ∧ Rdd w Post w' := by
  obtain ⟨wx, hwx, bx, sx, hr, h1, h2⟩ := rd_blocks (w := w) (o := #[.int .i64 1, .int .u64 ou, .int .i64 om, .int .i64 oe]) (c := #[])
  have HC := K.Hid.mk' (H wx bx sx)
  have BX := K.Hid.mk' bx
  have SX := K.Hid.mk' sx
  have H1 := K.Hid.mk' h1
  have H2 := K.Hid.mk' h2
  have r0 := (cell_of_row wx w.heap.size 0 _ _ _ hr).trans (show (#[.int .i64 1, .int .u64 ou, .int .i64 om, .int .i64 oe] : Array Value)[0]? = some (.int .i64 1) from rfl)
  have r1 := (cell_of_row wx w.heap.size 1 _ _ _ hr).trans (show (#[.int .i64 1, .int .u64 ou, .int .i64 om, .int .i64 oe] : Array Value)[1]? = some (.int .u64 ou) from rfl)
  have r2 := (cell_of_row wx w.heap.size 2 _ _ _ hr).trans (show (#[.int .i64 1, .int .u64 ou, .int .i64 om, .int .i64 oe] : Array Value)[2]? = some (.int .i64 om) from rfl)
  clear H bx sx h1 h2 hr
  go_enter Tryz.func21, Tryz.ntmps21
  go_upto_region 2 with (first | (refine wpList_alloc_row rfl 76 rfl gz (hzG _) ?_) | fail)
  rw [← hwx]
  clear hwx
  go_wp2_with fail
  refine HC.out.mono ?_
  rintro x w1 ⟨rfl, hp, hk⟩
  have hs1 := hk.size
  have g1 : w1.heap[w.heap.size + 1]? = some (.cells gz 76 (0, 0)) := by rw [hk.block _ (by omega) (by rw [SX.out]; omega)]; exact H1.out
  have g2 : w1.heap[w.heap.size + 2]? = some (.cells gz 76 (0, 0)) := by rw [hk.block _ (by omega) (by rw [SX.out]; omega)]; exact H2.out
  have HP := K.Hid.mk' hp
  clear hp hk HC r0 r1 r2 hs1
  have ec : gz.setIfInBounds 1 (.bool v) = gC (.int .u8 0) (.bool v) (.int .u64 0) (.int .i64 0) (.float .f64 0) (.string ⟨#[]⟩) (.slice none 0 0) z32 (.slice none 0 0) := rfl
  have q2 : (w1.setCell ⟨w.heap.size + 2, 1, none⟩ (.bool v)).heap[w.heap.size + 2]? = some (.cells (gC (.int .u8 0) (.bool v) (.int .u64 0) (.int .i64 0) (.float .f64 0) (.string ⟨#[]⟩) (.slice none 0 0) z32 (.slice none 0 0)) 76 (0, 0)) := by rw [heap_setCell_same w1 _ 1 _ 76 _ g2, ec]
  have q1 : (w1.setCell ⟨w.heap.size + 2, 1, none⟩ (.bool v)).heap[w.heap.size + 1]? = some (.cells gz 76 (0, 0)) := by rw [Below.heap_setCell _ _ _ _ (by show w.heap.size + 1 ≠ w.heap.size + 2; omega)]; exact g1
  have FX : Hid (Fx w.heap.size w1 (w1.setCell ⟨w.heap.size + 2, 1, none⟩ (.bool v))) := fx_cell _ _ _ _
  have Q1 := K.Hid.mk' q1
  have Q2 := K.Hid.mk' q2
  have hcz : (gC (.int .u8 0) (.bool v) (.int .u64 0) (.int .i64 0) (.float .f64 0) (.string ⟨#[]⟩) (.slice none 0 0) z32 (.slice none 0 0)).size = 40 := gC_size z32_len
  have hco : (gC (.int .u8 0) (.bool v) (.int .u64 0) (.int .i64 0) (.float .f64 0) (.string ⟨#[]⟩) (.slice none 0 0) z32 (.slice none 0 0)).all (·.oneCell') = true := gC_one rfl rfl rfl rfl rfl rfl rfl rfl
  have c2 := (cell_of_row w1 (w.heap.size + 2) 1 _ _ _ g2).trans (rfl : gz[1]? = some (.bool false))
  have f2 := frozen_of_row w1 (w.heap.size + 2) 1 _ _ g2
  clear g1 g2 q1 q2 ec
  generalize hgen : gC (.int .u8 0) (.bool v) (.int .u64 0) (.int .i64 0) (.float .f64 0) (.string ⟨#[]⟩) (.slice none 0 0) z32 (.slice none 0 0) = C at *
  have HG := K.Hid.mk' hgen
  clear hgen
  go_wp2_with (first
    | (refine wpList_load_arr rfl 76 _ rfl (w.heap.size + 2) rfl 76 C (0, 0) _ Q2.out Tryz.underlying76 rfl (by rw [hcz]; exact sizeGot) ?_)
    | (refine wpList_store_row rfl 76 _ _ rfl (w.heap.size + 1) C rfl rfl 76 gz Q1.out (by rw [hcz]; exact sizeGot) (by rw [gz_size, hcz]) hco ?_)
    | fail)
  exact bodyPost_ret (resRead _ _ (w.heap.size + 1) 76 C hcz (0, 0) rfl (setRow_heap _ _ _ _ _ _ Q1.out)) rfl ⟨by rw [HG.out], _, w1, BX.out, SX.out, HP.out, FX.out.trans (fx_end _ _ _)⟩

set_option maxRecDepth 100000 in
set_option maxHeartbeats 2000000 in
theorem read_2 (ptr : Option Addr) (ou om oe : Int) (n : Int) (n0 : 0 ≤ n) (n1 : n < 4294967296) (w : World) (Post : World → World → Prop)
    (H : ∀ wx, Below w.heap.size w wx → wx.heap.size = w.heap.size + 3 → Calls Tryz.prog 77 #[.pointer ptr] wx fun x w1 => x = .returned (.int .u32 n) ∧ Post wx w1 ∧ Keeps w.heap.size wx w1) :
    Calls Tryz.prog 21 #[.pointer ptr, .agg #[.int .i64 2, .int .u64 ou, .int .i64 om, .int .i64 oe]] w fun x w' => x = .returned (.agg (gC (.int .u8 0) (.bool false) (.int .u64 n) (.int .i64 0) (.float .f64 0) (.string ⟨#[]⟩) (.slice none 0 0) z32 (.slice none 0 0))) ∧ Rdd w Post w' := by
  obtain ⟨wx, hwx, bx, sx, hr, h1, h2⟩ := rd_blocks (w := w) (o := #[.int .i64 2, .int .u64 ou, .int .i64 om, .int .i64 oe]) (c := #[])
  have HC := K.Hid.mk' (H wx bx sx)
  have BX := K.Hid.mk' bx
  have SX := K.Hid.mk' sx
  have H1 := K.Hid.mk' h1
  have H2 := K.Hid.mk' h2
  have r0 := (cell_of_row wx w.heap.size 0 _ _ _ hr).trans (show (#[.int .i64 2, .int .u64 ou, .int .i64 om, .int .i64 oe] : Array Value)[0]? = some (.int .i64 2) from rfl)
  have r1 := (cell_of_row wx w.heap.size 1 _ _ _ hr).trans (show (#[.int .i64 2, .int .u64 ou, .int .i64 om, .int .i64 oe] : Array Value)[1]? = some (.int .u64 ou) from rfl)
  have r2 := (cell_of_row wx w.heap.size 2 _ _ _ hr).trans (show (#[.int .i64 2, .int .u64 ou, .int .i64 om, .int .i64 oe] : Array Value)[2]? = some (.int .i64 om) from rfl)
  clear H bx sx h1 h2 hr
  go_enter Tryz.func21, Tryz.ntmps21
  go_upto_region 2 with (first | (refine wpList_alloc_row rfl 76 rfl gz (hzG _) ?_) | fail)
  rw [← hwx]
  clear hwx
  go_wp2_with fail
  refine HC.out.mono ?_
  rintro x w1 ⟨rfl, hp, hk⟩
  have hs1 := hk.size
  have g1 : w1.heap[w.heap.size + 1]? = some (.cells gz 76 (0, 0)) := by rw [hk.block _ (by omega) (by rw [SX.out]; omega)]; exact H1.out
  have g2 : w1.heap[w.heap.size + 2]? = some (.cells gz 76 (0, 0)) := by rw [hk.block _ (by omega) (by rw [SX.out]; omega)]; exact H2.out
  have HP := K.Hid.mk' hp
  clear hp hk HC r0 r1 r2 hs1
  have ec : gz.setIfInBounds 2 (.int .u64 n) = gC (.int .u8 0) (.bool false) (.int .u64 n) (.int .i64 0) (.float .f64 0) (.string ⟨#[]⟩) (.slice none 0 0) z32 (.slice none 0 0) := rfl
  have q2 : (w1.setCell ⟨w.heap.size + 2, 2, none⟩ (.int .u64 n)).heap[w.heap.size + 2]? = some (.cells (gC (.int .u8 0) (.bool false) (.int .u64 n) (.int .i64 0) (.float .f64 0) (.string ⟨#[]⟩) (.slice none 0 0) z32 (.slice none 0 0)) 76 (0, 0)) := by rw [heap_setCell_same w1 _ 2 _ 76 _ g2, ec]
  have q1 : (w1.setCell ⟨w.heap.size + 2, 2, none⟩ (.int .u64 n)).heap[w.heap.size + 1]? = some (.cells gz 76 (0, 0)) := by rw [Below.heap_setCell _ _ _ _ (by show w.heap.size + 1 ≠ w.heap.size + 2; omega)]; exact g1
  have FX : Hid (Fx w.heap.size w1 (w1.setCell ⟨w.heap.size + 2, 2, none⟩ (.int .u64 n))) := fx_cell _ _ _ _
  have Q1 := K.Hid.mk' q1
  have Q2 := K.Hid.mk' q2
  have hcz : (gC (.int .u8 0) (.bool false) (.int .u64 n) (.int .i64 0) (.float .f64 0) (.string ⟨#[]⟩) (.slice none 0 0) z32 (.slice none 0 0)).size = 40 := gC_size z32_len
  have hco : (gC (.int .u8 0) (.bool false) (.int .u64 n) (.int .i64 0) (.float .f64 0) (.string ⟨#[]⟩) (.slice none 0 0) z32 (.slice none 0 0)).all (·.oneCell') = true := gC_one rfl rfl rfl rfl rfl rfl rfl rfl
  have c2 := (cell_of_row w1 (w.heap.size + 2) 2 _ _ _ g2).trans (rfl : gz[2]? = some (.int .u64 0))
  have f2 := frozen_of_row w1 (w.heap.size + 2) 2 _ _ g2
  clear g1 g2 q1 q2 ec
  generalize hgen : gC (.int .u8 0) (.bool false) (.int .u64 n) (.int .i64 0) (.float .f64 0) (.string ⟨#[]⟩) (.slice none 0 0) z32 (.slice none 0 0) = C at *
  have HG := K.Hid.mk' hgen
  clear hgen
  go_wp2_with (first
    | (refine wpList_load_arr rfl 76 _ rfl (w.heap.size + 2) rfl 76 C (0, 0) _ Q2.out Tryz.underlying76 rfl (by rw [hcz]; exact sizeGot) ?_)
    | (refine wpList_store_row rfl 76 _ _ rfl (w.heap.size + 1) C rfl rfl 76 gz Q1.out (by rw [hcz]; exact sizeGot) (by rw [gz_size, hcz]) hco ?_)
    | fail)
  exact bodyPost_ret (resRead _ _ (w.heap.size + 1) 76 C hcz (0, 0) rfl (setRow_heap _ _ _ _ _ _ Q1.out)) rfl ⟨by rw [HG.out], _, w1, BX.out, SX.out, HP.out, FX.out.trans (fx_end _ _ _)⟩

set_option maxRecDepth 100000 in
set_option maxHeartbeats 2000000 in
theorem read_3 (ptr : Option Addr) (ou om oe : Int) (n : Int) (w : World) (Post : World → World → Prop)
    (H : ∀ wx, Below w.heap.size w wx → wx.heap.size = w.heap.size + 3 → Calls Tryz.prog 30 #[.pointer ptr, .int .u64 ou] wx fun x w1 => x = .returned (.int .u64 n) ∧ Post wx w1 ∧ Keeps w.heap.size wx w1) :
    Calls Tryz.prog 21 #[.pointer ptr, .agg #[.int .i64 3, .int .u64 ou, .int .i64 om, .int .i64 oe]] w fun x w' => x = .returned (.agg (gC (.int .u8 0) (.bool false) (.int .u64 n) (.int .i64 0) (.float .f64 0) (.string ⟨#[]⟩) (.slice none 0 0) z32 (.slice none 0 0))) ∧ Rdd w Post w' := by
  obtain ⟨wx, hwx, bx, sx, hr, h1, h2⟩ := rd_blocks (w := w) (o := #[.int .i64 3, .int .u64 ou, .int .i64 om, .int .i64 oe]) (c := #[])
  have HC := K.Hid.mk' (H wx bx sx)
  have BX := K.Hid.mk' bx
  have SX := K.Hid.mk' sx
  have H1 := K.Hid.mk' h1
  have H2 := K.Hid.mk' h2
  have r0 := (cell_of_row wx w.heap.size 0 _ _ _ hr).trans (show (#[.int .i64 3, .int .u64 ou, .int .i64 om, .int .i64 oe] : Array Value)[0]? = some (.int .i64 3) from rfl)
  have r1 := (cell_of_row wx w.heap.size 1 _ _ _ hr).trans (show (#[.int .i64 3, .int .u64 ou, .int .i64 om, .int .i64 oe] : Array Value)[1]? = some (.int .u64 ou) from rfl)
  have r2 := (cell_of_row wx w.heap.size 2 _ _ _ hr).trans (show (#[.int .i64 3, .int .u64 ou, .int .i64 om, .int .i64 oe] : Array Value)[2]? = some (.int .i64 om) from rfl)
  clear H bx sx h1 h2 hr
  go_enter Tryz.func21, Tryz.ntmps21
  go_upto_region 2 with (first | (refine wpList_alloc_row rfl 76 rfl gz (hzG _) ?_) | fail)
  rw [← hwx]
  clear hwx
  go_wp2_with fail
  refine HC.out.mono ?_
  rintro x w1 ⟨rfl, hp, hk⟩
  have hs1 := hk.size
  have g1 : w1.heap[w.heap.size + 1]? = some (.cells gz 76 (0, 0)) := by rw [hk.block _ (by omega) (by rw [SX.out]; omega)]; exact H1.out
  have g2 : w1.heap[w.heap.size + 2]? = some (.cells gz 76 (0, 0)) := by rw [hk.block _ (by omega) (by rw [SX.out]; omega)]; exact H2.out
  have HP := K.Hid.mk' hp
  clear hp hk HC r0 r1 r2 hs1
  have ec : gz.setIfInBounds 2 (.int .u64 n) = gC (.int .u8 0) (.bool false) (.int .u64 n) (.int .i64 0) (.float .f64 0) (.string ⟨#[]⟩) (.slice none 0 0) z32 (.slice none 0 0) := rfl
  have q2 : (w1.setCell ⟨w.heap.size + 2, 2, none⟩ (.int .u64 n)).heap[w.heap.size + 2]? = some (.cells (gC (.int .u8 0) (.bool false) (.int .u64 n) (.int .i64 0) (.float .f64 0) (.string ⟨#[]⟩) (.slice none 0 0) z32 (.slice none 0 0)) 76 (0, 0)) := by rw [heap_setCell_same w1 _ 2 _ 76 _ g2, ec]
  have q1 : (w1.setCell ⟨w.heap.size + 2, 2, none⟩ (.int .u64 n)).heap[w.heap.size + 1]? = some (.cells gz 76 (0, 0)) := by rw [Below.heap_setCell _ _ _ _ (by show w.heap.size + 1 ≠ w.heap.size + 2; omega)]; exact g1
  have FX : Hid (Fx w.heap.size w1 (w1.setCell ⟨w.heap.size + 2, 2, none⟩ (.int .u64 n))) := fx_cell _ _ _ _
  have Q1 := K.Hid.mk' q1
  have Q2 := K.Hid.mk' q2
  have hcz : (gC (.int .u8 0) (.bool false) (.int .u64 n) (.int .i64 0) (.float .f64 0) (.string ⟨#[]⟩) (.slice none 0 0) z32 (.slice none 0 0)).size = 40 := gC_size z32_len
  have hco : (gC (.int .u8 0) (.bool false) (.int .u64 n) (.int .i64 0) (.float .f64 0) (.string ⟨#[]⟩) (.slice none 0 0) z32 (.slice none 0 0)).all (·.oneCell') = true := gC_one rfl rfl rfl rfl rfl rfl rfl rfl
  have c2 := (cell_of_row w1 (w.heap.size + 2) 2 _ _ _ g2).trans (rfl : gz[2]? = some (.int .u64 0))
  have f2 := frozen_of_row w1 (w.heap.size + 2) 2 _ _ g2
  clear g1 g2 q1 q2 ec
  generalize hgen : gC (.int .u8 0) (.bool false) (.int .u64 n) (.int .i64 0) (.float .f64 0) (.string ⟨#[]⟩) (.slice none 0 0) z32 (.slice none 0 0) = C at *
  have HG := K.Hid.mk' hgen
  clear hgen
  go_wp2_with (first
    | (refine wpList_load_arr rfl 76 _ rfl (w.heap.size + 2) rfl 76 C (0, 0) _ Q2.out Tryz.underlying76 rfl (by rw [hcz]; exact sizeGot) ?_)
    | (refine wpList_store_row rfl 76 _ _ rfl (w.heap.size + 1) C rfl rfl 76 gz Q1.out (by rw [hcz]; exact sizeGot) (by rw [gz_size, hcz]) hco ?_)
    | fail)
  exact bodyPost_ret (resRead _ _ (w.heap.size + 1) 76 C hcz (0, 0) rfl (setRow_heap _ _ _ _ _ _ Q1.out)) rfl ⟨by rw [HG.out], _, w1, BX.out, SX.out, HP.out, FX.out.trans (fx_end _ _ _)⟩

set_option maxRecDepth 100000 in
set_option maxHeartbeats 2000000 in
theorem read_4 (ptr : Option Addr) (ou om oe : Int) (n : Int) (w : World) (Post : World → World → Prop)
    (H : ∀ wx, Below w.heap.size w wx → wx.heap.size = w.heap.size + 3 → Calls Tryz.prog 31 #[.pointer ptr] wx fun x w1 => x = .returned (.int .i64 n) ∧ Post wx w1 ∧ Keeps w.heap.size wx w1) :
    Calls Tryz.prog 21 #[.pointer ptr, .agg #[.int .i64 4, .int .u64 ou, .int .i64 om, .int .i64 oe]] w fun x w' => x = .returned (.agg (gC (.int .u8 0) (.bool false) (.int .u64 0) (.int .i64 n) (.float .f64 0) (.string ⟨#[]⟩) (.slice none 0 0) z32 (.slice none 0 0))) ∧ Rdd w Post w' := by
  obtain ⟨wx, hwx, bx, sx, hr, h1, h2⟩ := rd_blocks (w := w) (o := #[.int .i64 4, .int .u64 ou, .int .i64 om, .int .i64 oe]) (c := #[])
  have HC := K.Hid.mk' (H wx bx sx)
  have BX := K.Hid.mk' bx
  have SX := K.Hid.mk' sx
  have H1 := K.Hid.mk' h1
  have H2 := K.Hid.mk' h2
  have r0 := (cell_of_row wx w.heap.size 0 _ _ _ hr).trans (show (#[.int .i64 4, .int .u64 ou, .int .i64 om, .int .i64 oe] : Array Value)[0]? = some (.int .i64 4) from rfl)
  have r1 := (cell_of_row wx w.heap.size 1 _ _ _ hr).trans (show (#[.int .i64 4, .int .u64 ou, .int .i64 om, .int .i64 oe] : Array Value)[1]? = some (.int .u64 ou) from rfl)
  have r2 := (cell_of_row wx w.heap.size 2 _ _ _ hr).trans (show (#[.int .i64 4, .int .u64 ou, .int .i64 om, .int .i64 oe] : Array Value)[2]? = some (.int .i64 om) from rfl)
  clear H bx sx h1 h2 hr
  go_enter Tryz.func21, Tryz.ntmps21
  go_upto_region 2 with (first | (refine wpList_alloc_row rfl 76 rfl gz (hzG _) ?_) | fail)
  rw [← hwx]
  clear hwx
  go_wp2_with fail
  refine HC.out.mono ?_
  rintro x w1 ⟨rfl, hp, hk⟩
  have hs1 := hk.size
  have g1 : w1.heap[w.heap.size + 1]? = some (.cells gz 76 (0, 0)) := by rw [hk.block _ (by omega) (by rw [SX.out]; omega)]; exact H1.out
  have g2 : w1.heap[w.heap.size + 2]? = some (.cells gz 76 (0, 0)) := by rw [hk.block _ (by omega) (by rw [SX.out]; omega)]; exact H2.out
  have HP := K.Hid.mk' hp
  clear hp hk HC r0 r1 r2 hs1
  have ec : gz.setIfInBounds 3 (.int .i64 n) = gC (.int .u8 0) (.bool false) (.int .u64 0) (.int .i64 n) (.float .f64 0) (.string ⟨#[]⟩) (.slice none 0 0) z32 (.slice none 0 0) := rfl
  have q2 : (w1.setCell ⟨w.heap.size + 2, 3, none⟩ (.int .i64 n)).heap[w.heap.size + 2]? = some (.cells (gC (.int .u8 0) (.bool false) (.int .u64 0) (.int .i64 n) (.float .f64 0) (.string ⟨#[]⟩) (.slice none 0 0) z32 (.slice none 0 0)) 76 (0, 0)) := by rw [heap_setCell_same w1 _ 3 _ 76 _ g2, ec]
  have q1 : (w1.setCell ⟨w.heap.size + 2, 3, none⟩ (.int .i64 n)).heap[w.heap.size + 1]? = some (.cells gz 76 (0, 0)) := by rw [Below.heap_setCell _ _ _ _ (by show w.heap.size + 1 ≠ w.heap.size + 2; omega)]; exact g1
  have FX : Hid (Fx w.heap.size w1 (w1.setCell ⟨w.heap.size + 2, 3, none⟩ (.int .i64 n))) := fx_cell _ _ _ _
  have Q1 := K.Hid.mk' q1
  have Q2 := K.Hid.mk' q2
  have hcz : (gC (.int .u8 0) (.bool false) (.int .u64 0) (.int .i64 n) (.float .f64 0) (.string ⟨#[]⟩) (.slice none 0 0) z32 (.slice none 0 0)).size = 40 := gC_size z32_len
  have hco : (gC (.int .u8 0) (.bool false) (.int .u64 0) (.int .i64 n) (.float .f64 0) (.string ⟨#[]⟩) (.slice none 0 0) z32 (.slice none 0 0)).all (·.oneCell') = true := gC_one rfl rfl rfl rfl rfl rfl rfl rfl
  have c2 := (cell_of_row w1 (w.heap.size + 2) 3 _ _ _ g2).trans (rfl : gz[3]? = some (.int .i64 0))
  have f2 := frozen_of_row w1 (w.heap.size + 2) 3 _ _ g2
  clear g1 g2 q1 q2 ec
  generalize hgen : gC (.int .u8 0) (.bool false) (.int .u64 0) (.int .i64 n) (.float .f64 0) (.string ⟨#[]⟩) (.slice none 0 0) z32 (.slice none 0 0) = C at *
  have HG := K.Hid.mk' hgen
  clear hgen
  go_wp2_with (first
    | (refine wpList_load_arr rfl 76 _ rfl (w.heap.size + 2) rfl 76 C (0, 0) _ Q2.out Tryz.underlying76 rfl (by rw [hcz]; exact sizeGot) ?_)
    | (refine wpList_store_row rfl 76 _ _ rfl (w.heap.size + 1) C rfl rfl 76 gz Q1.out (by rw [hcz]; exact sizeGot) (by rw [gz_size, hcz]) hco ?_)
    | fail)
  exact bodyPost_ret (resRead _ _ (w.heap.size + 1) 76 C hcz (0, 0) rfl (setRow_heap _ _ _ _ _ _ Q1.out)) rfl ⟨by rw [HG.out], _, w1, BX.out, SX.out, HP.out, FX.out.trans (fx_end _ _ _)⟩

set_option maxRecDepth 100000 in
set_option maxHeartbeats 2000000 in
theorem read_5 (ptr : Option Addr) (ou om oe : Int) (f : Nat) (w : World) (Post : World → World → Prop)
    (H : ∀ wx, Below w.heap.size w wx → wx.heap.size = w.heap.size + 3 → Calls Tryz.prog 33 #[.pointer ptr] wx fun x w1 => x = .returned (.float .f64 f) ∧ Post wx w1 ∧ Keeps w.heap.size wx w1) :
    Calls Tryz.prog 21 #[.pointer ptr, .agg #[.int .i64 5, .int .u64 ou, .int .i64 om, .int .i64 oe]] w fun x w' => x = .returned (.agg (gC (.int .u8 0) (.bool false) (.int .u64 0) (.int .i64 0) (.float .f64 f) (.string ⟨#[]⟩) (.slice none 0 0) z32 (.slice none 0 0))) ∧ Rdd w Post w' := by
  obtain ⟨wx, hwx, bx, sx, hr, h1, h2⟩ := rd_blocks (w := w) (o := #[.int .i64 5, .int .u64 ou, .int .i64 om, .int .i64 oe]) (c := #[])
  have HC := K.Hid.mk' (H wx bx sx)
  have BX := K.Hid.mk' bx
  have SX := K.Hid.mk' sx
  have H1 := K.Hid.mk' h1
  have H2 := K.Hid.mk' h2
  have r0 := (cell_of_row wx w.heap.size 0 _ _ _ hr).trans (show (#[.int .i64 5, .int .u64 ou, .int .i64 om, .int .i64 oe] : Array Value)[0]? = some (.int .i64 5) from rfl)
  have r1 := (cell_of_row wx w.heap.size 1 _ _ _ hr).trans (show (#[.int .i64 5, .int .u64 ou, .int .i64 om, .int .i64 oe] : Array Value)[1]? = some (.int .u64 ou) from rfl)
  have r2 := (cell_of_row wx w.heap.size 2 _ _ _ hr).trans (show (#[.int .i64 5, .int .u64 ou, .int .i64 om, .int .i64 oe] : Array Value)[2]? = some (.int .i64 om) from rfl)
  clear H bx sx h1 h2 hr
  go_enter Tryz.func21, Tryz.ntmps21
  go_upto_region 2 with (first | (refine wpList_alloc_row rfl 76 rfl gz (hzG _) ?_) | fail)
  rw [← hwx]
  clear hwx
  go_wp2_with fail
  refine HC.out.mono ?_
  rintro x w1 ⟨rfl, hp, hk⟩
  have hs1 := hk.size
  have g1 : w1.heap[w.heap.size + 1]? = some (.cells gz 76 (0, 0)) := by rw [hk.block _ (by omega) (by rw [SX.out]; omega)]; exact H1.out
  have g2 : w1.heap[w.heap.size + 2]? = some (.cells gz 76 (0, 0)) := by rw [hk.block _ (by omega) (by rw [SX.out]; omega)]; exact H2.out
  have HP := K.Hid.mk' hp
  clear hp hk HC r0 r1 r2 hs1
  have ec : gz.setIfInBounds 4 (.float .f64 f) = gC (.int .u8 0) (.bool false) (.int .u64 0) (.int .i64 0) (.float .f64 f) (.string ⟨#[]⟩) (.slice none 0 0) z32 (.slice none 0 0) := rfl
  have q2 : (w1.setCell ⟨w.heap.size + 2, 4, none⟩ (.float .f64 f)).heap[w.heap.size + 2]? = some (.cells (gC (.int .u8 0) (.bool false) (.int .u64 0) (.int .i64 0) (.float .f64 f) (.string ⟨#[]⟩) (.slice none 0 0) z32 (.slice none 0 0)) 76 (0, 0)) := by rw [heap_setCell_same w1 _ 4 _ 76 _ g2, ec]
  have q1 : (w1.setCell ⟨w.heap.size + 2, 4, none⟩ (.float .f64 f)).heap[w.heap.size + 1]? = some (.cells gz 76 (0, 0)) := by rw [Below.heap_setCell _ _ _ _ (by show w.heap.size + 1 ≠ w.heap.size + 2; omega)]; exact g1
  have FX : Hid (Fx w.heap.size w1 (w1.setCell ⟨w.heap.size + 2, 4, none⟩ (.float .f64 f))) := fx_cell _ _ _ _
  have Q1 := K.Hid.mk' q1
  have Q2 := K.Hid.mk' q2
  have hcz : (gC (.int .u8 0) (.bool false) (.int .u64 0) (.int .i64 0) (.float .f64 f) (.string ⟨#[]⟩) (.slice none 0 0) z32 (.slice none 0 0)).size = 40 := gC_size z32_len
  have hco : (gC (.int .u8 0) (.bool false) (.int .u64 0) (.int .i64 0) (.float .f64 f) (.string ⟨#[]⟩) (.slice none 0 0) z32 (.slice none 0 0)).all (·.oneCell') = true := gC_one rfl rfl rfl rfl rfl rfl rfl rfl
  have c2 := (cell_of_row w1 (w.heap.size + 2) 4 _ _ _ g2).trans (rfl : gz[4]? = some (.float .f64 0))
  have f2 := frozen_of_row w1 (w.heap.size + 2) 4 _ _ g2
  clear g1 g2 q1 q2 ec
  generalize hgen : gC (.int .u8 0) (.bool false) (.int .u64 0) (.int .i64 0) (.float .f64 f) (.string ⟨#[]⟩) (.slice none 0 0) z32 (.slice none 0 0) = C at *
  have HG := K.Hid.mk' hgen
  clear hgen
  go_wp2_with (first
    | (refine wpList_load_arr rfl 76 _ rfl (w.heap.size + 2) rfl 76 C (0, 0) _ Q2.out Tryz.underlying76 rfl (by rw [hcz]; exact sizeGot) ?_)
    | (refine wpList_store_row rfl 76 _ _ rfl (w.heap.size + 1) C rfl rfl 76 gz Q1.out (by rw [hcz]; exact sizeGot) (by rw [gz_size, hcz]) hco ?_)
    | fail)
  exact bodyPost_ret (resRead _ _ (w.heap.size + 1) 76 C hcz (0, 0) rfl (setRow_heap _ _ _ _ _ _ Q1.out)) rfl ⟨by rw [HG.out], _, w1, BX.out, SX.out, HP.out, FX.out.trans (fx_end _ _ _)⟩

set_option maxRecDepth 100000 in
set_option maxHeartbeats 2000000 in
theorem read_6 (ptr : Option Addr) (ou om oe : Int) (s : ByteArray) (w : World) (Post : World → World → Prop)
    (H : ∀ wx, Below w.heap.size w wx → wx.heap.size = w.heap.size + 3 → Calls Tryz.prog 32 #[.pointer ptr, .int .i64 om] wx fun x w1 => x = .returned (.string s) ∧ Post wx w1 ∧ Keeps w.heap.size wx w1) :
    Calls Tryz.prog 21 #[.pointer ptr, .agg #[.int .i64 6, .int .u64 ou, .int .i64 om, .int .i64 oe]] w fun x w' => x = .returned (.agg (gC (.int .u8 0) (.bool false) (.int .u64 0) (.int .i64 0) (.float .f64 0) (.string s) (.slice none 0 0) z32 (.slice none 0 0))) ∧ Rdd w Post w' := by
  obtain ⟨wx, hwx, bx, sx, hr, h1, h2⟩ := rd_blocks (w := w) (o := #[.int .i64 6, .int .u64 ou, .int .i64 om, .int .i64 oe]) (c := #[])
  have HC := K.Hid.mk' (H wx bx sx)
  have BX := K.Hid.mk' bx
  have SX := K.Hid.mk' sx
  have H1 := K.Hid.mk' h1
  have H2 := K.Hid.mk' h2
  have r0 := (cell_of_row wx w.heap.size 0 _ _ _ hr).trans (show (#[.int .i64 6, .int .u64 ou, .int .i64 om, .int .i64 oe] : Array Value)[0]? = some (.int .i64 6) from rfl)
  have r1 := (cell_of_row wx w.heap.size 1 _ _ _ hr).trans (show (#[.int .i64 6, .int .u64 ou, .int .i64 om, .int .i64 oe] : Array Value)[1]? = some (.int .u64 ou) from rfl)
  have r2 := (cell_of_row wx w.heap.size 2 _ _ _ hr).trans (show (#[.int .i64 6, .int .u64 ou, .int .i64 om, .int .i64 oe] : Array Value)[2]? = some (.int .i64 om) from rfl)
  clear H bx sx h1 h2 hr
  go_enter Tryz.func21, Tryz.ntmps21
  go_upto_region 2 with (first | (refine wpList_alloc_row rfl 76 rfl gz (hzG _) ?_) | fail)
  rw [← hwx]
  clear hwx
  go_wp2_with fail
  refine HC.out.mono ?_
  rintro x w1 ⟨rfl, hp, hk⟩
  have hs1 := hk.size
  have g1 : w1.heap[w.heap.size + 1]? = some (.cells gz 76 (0, 0)) := by rw [hk.block _ (by omega) (by rw [SX.out]; omega)]; exact H1.out
  have g2 : w1.heap[w.heap.size + 2]? = some (.cells gz 76 (0, 0)) := by rw [hk.block _ (by omega) (by rw [SX.out]; omega)]; exact H2.out
  have HP := K.Hid.mk' hp
  clear hp hk HC r0 r1 r2 hs1
  have ec : gz.setIfInBounds 5 (.string s) = gC (.int .u8 0) (.bool false) (.int .u64 0) (.int .i64 0) (.float .f64 0) (.string s) (.slice none 0 0) z32 (.slice none 0 0) := rfl
  have q2 : (w1.setCell ⟨w.heap.size + 2, 5, none⟩ (.string s)).heap[w.heap.size + 2]? = some (.cells (gC (.int .u8 0) (.bool false) (.int .u64 0) (.int .i64 0) (.float .f64 0) (.string s) (.slice none 0 0) z32 (.slice none 0 0)) 76 (0, 0)) := by rw [heap_setCell_same w1 _ 5 _ 76 _ g2, ec]
  have q1 : (w1.setCell ⟨w.heap.size + 2, 5, none⟩ (.string s)).heap[w.heap.size + 1]? = some (.cells gz 76 (0, 0)) := by rw [Below.heap_setCell _ _ _ _ (by show w.heap.size + 1 ≠ w.heap.size + 2; omega)]; exact g1
  have FX : Hid (Fx w.heap.size w1 (w1.setCell ⟨w.heap.size + 2, 5, none⟩ (.string s))) := fx_cell _ _ _ _
  have Q1 := K.Hid.mk' q1
  have Q2 := K.Hid.mk' q2
  have hcz : (gC (.int .u8 0) (.bool false) (.int .u64 0) (.int .i64 0) (.float .f64 0) (.string s) (.slice none 0 0) z32 (.slice none 0 0)).size = 40 := gC_size z32_len
  have hco : (gC (.int .u8 0) (.bool false) (.int .u64 0) (.int .i64 0) (.float .f64 0) (.string s) (.slice none 0 0) z32 (.slice none 0 0)).all (·.oneCell') = true := gC_one rfl rfl rfl rfl rfl rfl rfl rfl
  have c2 := (cell_of_row w1 (w.heap.size + 2) 5 _ _ _ g2).trans (rfl : gz[5]? = some (.string ⟨#[]⟩))
  have f2 := frozen_of_row w1 (w.heap.size + 2) 5 _ _ g2
  clear g1 g2 q1 q2 ec
  generalize hgen : gC (.int .u8 0) (.bool false) (.int .u64 0) (.int .i64 0) (.float .f64 0) (.string s) (.slice none 0 0) z32 (.slice none 0 0) = C at *
  have HG := K.Hid.mk' hgen
  clear hgen
  go_wp2_with (first
    | (refine wpList_load_arr rfl 76 _ rfl (w.heap.size + 2) rfl 76 C (0, 0) _ Q2.out Tryz.underlying76 rfl (by rw [hcz]; exact sizeGot) ?_)
    | (refine wpList_store_row rfl 76 _ _ rfl (w.heap.size + 1) C rfl rfl 76 gz Q1.out (by rw [hcz]; exact sizeGot) (by rw [gz_size, hcz]) hco ?_)
    | fail)
  exact bodyPost_ret (resRead _ _ (w.heap.size + 1) 76 C hcz (0, 0) rfl (setRow_heap _ _ _ _ _ _ Q1.out)) rfl ⟨by rw [HG.out], _, w1, BX.out, SX.out, HP.out, FX.out.trans (fx_end _ _ _)⟩

set_option maxRecDepth 100000 in
set_option maxHeartbeats 2000000 in
theorem read_7 (ptr : Option Addr) (ou om oe : Int) (w : World) (Post : Value → World → World → Prop)
    (H : ∀ wx, Below w.heap.size w wx → wx.heap.size = w.heap.size + 3 → Calls Tryz.prog 78 #[.pointer ptr, .int .i64 om] wx fun x w1 => ∃ a m c, x = .returned (.slice a m c) ∧ Post (.slice a m c) wx w1 ∧ Keeps w.heap.size wx w1) :
    Calls Tryz.prog 21 #[.pointer ptr, .agg #[.int .i64 7, .int .u64 ou, .int .i64 om, .int .i64 oe]] w fun x w' => ∃ a m c, x = .returned (.agg (gC (.int .u8 0) (.bool false) (.int .u64 0) (.int .i64 0) (.float .f64 0) (.string ⟨#[]⟩) (.slice a m c) z32 (.slice none 0 0))) ∧ Rdd w (Post (.slice a m c)) w' := by
  obtain ⟨wx, hwx, bx, sx, hr, h1, h2⟩ := rd_blocks (w := w) (o := #[.int .i64 7, .int .u64 ou, .int .i64 om, .int .i64 oe]) (c := #[])
  have HC := K.Hid.mk' (H wx bx sx)
  have BX := K.Hid.mk' bx
  have SX := K.Hid.mk' sx
  have H1 := K.Hid.mk' h1
  have H2 := K.Hid.mk' h2
  have r0 := (cell_of_row wx w.heap.size 0 _ _ _ hr).trans (show (#[.int .i64 7, .int .u64 ou, .int .i64 om, .int .i64 oe] : Array Value)[0]? = some (.int .i64 7) from rfl)
  have r1 := (cell_of_row wx w.heap.size 1 _ _ _ hr).trans (show (#[.int .i64 7, .int .u64 ou, .int .i64 om, .int .i64 oe] : Array Value)[1]? = some (.int .u64 ou) from rfl)
  have r2 := (cell_of_row wx w.heap.size 2 _ _ _ hr).trans (show (#[.int .i64 7, .int .u64 ou, .int .i64 om, .int .i64 oe] : Array Value)[2]? = some (.int .i64 om) from rfl)
  clear H bx sx h1 h2 hr
  go_enter Tryz.func21, Tryz.ntmps21
  go_upto_region 2 with (first | (refine wpList_alloc_row rfl 76 rfl gz (hzG _) ?_) | fail)
  rw [← hwx]
  clear hwx
  go_wp2_with fail
  refine HC.out.mono ?_
  rintro x w1 ⟨a, m, c, rfl, hp, hk⟩
  have hs1 := hk.size
  have g1 : w1.heap[w.heap.size + 1]? = some (.cells gz 76 (0, 0)) := by rw [hk.block _ (by omega) (by rw [SX.out]; omega)]; exact H1.out
  have g2 : w1.heap[w.heap.size + 2]? = some (.cells gz 76 (0, 0)) := by rw [hk.block _ (by omega) (by rw [SX.out]; omega)]; exact H2.out
  have HP := K.Hid.mk' hp
  clear hp hk HC r0 r1 r2 hs1
  have ec : gz.setIfInBounds 6 (.slice a m c) = gC (.int .u8 0) (.bool false) (.int .u64 0) (.int .i64 0) (.float .f64 0) (.string ⟨#[]⟩) (.slice a m c) z32 (.slice none 0 0) := rfl
  have q2 : (w1.setCell ⟨w.heap.size + 2, 6, none⟩ (.slice a m c)).heap[w.heap.size + 2]? = some (.cells (gC (.int .u8 0) (.bool false) (.int .u64 0) (.int .i64 0) (.float .f64 0) (.string ⟨#[]⟩) (.slice a m c) z32 (.slice none 0 0)) 76 (0, 0)) := by rw [heap_setCell_same w1 _ 6 _ 76 _ g2, ec]
  have q1 : (w1.setCell ⟨w.heap.size + 2, 6, none⟩ (.slice a m c)).heap[w.heap.size + 1]? = some (.cells gz 76 (0, 0)) := by rw [Below.heap_setCell _ _ _ _ (by show w.heap.size + 1 ≠ w.heap.size + 2; omega)]; exact g1
  have FX : Hid (Fx w.heap.size w1 (w1.setCell ⟨w.heap.size + 2, 6, none⟩ (.slice a m c))) := fx_cell _ _ _ _
  have Q1 := K.Hid.mk' q1
  have Q2 := K.Hid.mk' q2
  have hcz : (gC (.int .u8 0) (.bool false) (.int .u64 0) (.int .i64 0) (.float .f64 0) (.string ⟨#[]⟩) (.slice a m c) z32 (.slice none 0 0)).size = 40 := gC_size z32_len
  have hco : (gC (.int .u8 0) (.bool false) (.int .u64 0) (.int .i64 0) (.float .f64 0) (.string ⟨#[]⟩) (.slice a m c) z32 (.slice none 0 0)).all (·.oneCell') = true := gC_one rfl rfl rfl rfl rfl rfl rfl rfl
  have c2 := (cell_of_row w1 (w.heap.size + 2) 6 _ _ _ g2).trans (rfl : gz[6]? = some (.slice none 0 0))
  have f2 := frozen_of_row w1 (w.heap.size + 2) 6 _ _ g2
  clear g1 g2 q1 q2 ec
  generalize hgen : gC (.int .u8 0) (.bool false) (.int .u64 0) (.int .i64 0) (.float .f64 0) (.string ⟨#[]⟩) (.slice a m c) z32 (.slice none 0 0) = C at *
  have HG := K.Hid.mk' hgen
  clear hgen
  go_wp2_with (first
    | (refine wpList_load_arr rfl 76 _ rfl (w.heap.size + 2) rfl 76 C (0, 0) _ Q2.out Tryz.underlying76 rfl (by rw [hcz]; exact sizeGot) ?_)
    | (refine wpList_store_row rfl 76 _ _ rfl (w.heap.size + 1) C rfl rfl 76 gz Q1.out (by rw [hcz]; exact sizeGot) (by rw [gz_size, hcz]) hco ?_)
    | fail)
  exact bodyPost_ret (resRead _ _ (w.heap.size + 1) 76 C hcz (0, 0) rfl (setRow_heap _ _ _ _ _ _ Q1.out)) rfl ⟨a, m, c, by rw [HG.out], _, w1, BX.out, SX.out, HP.out, FX.out.trans (fx_end _ _ _)⟩

set_option maxRecDepth 100000 in
set_option maxHeartbeats 2000000 in
theorem read_9 (ptr : Option Addr) (ou om oe : Int) (w : World) (Post : Value → World → World → Prop)
    (H : ∀ wx, Below w.heap.size w wx → wx.heap.size = w.heap.size + 3 → Calls Tryz.prog 80 #[.pointer ptr, .int .i64 om] wx fun x w1 => ∃ a m c, x = .returned (.slice a m c) ∧ Post (.slice a m c) wx w1 ∧ Keeps w.heap.size wx w1) :
    Calls Tryz.prog 21 #[.pointer ptr, .agg #[.int .i64 9, .int .u64 ou, .int .i64 om, .int .i64 oe]] w fun x w' => ∃ a m c, x = .returned (.agg (gC (.int .u8 0) (.bool false) (.int .u64 0) (.int .i64 0) (.float .f64 0) (.string ⟨#[]⟩) (.slice none 0 0) z32 (.slice a m c))) ∧ Rdd w (Post (.slice a m c)) w' := by
  obtain ⟨wx, hwx, bx, sx, hr, h1, h2⟩ := rd_blocks (w := w) (o := #[.int .i64 9, .int .u64 ou, .int .i64 om, .int .i64 oe]) (c := #[])
  have HC := K.Hid.mk' (H wx bx sx)
  have BX := K.Hid.mk' bx
  have SX := K.Hid.mk' sx
  have H1 := K.Hid.mk' h1
  have H2 := K.Hid.mk' h2
  have r0 := (cell_of_row wx w.heap.size 0 _ _ _ hr).trans (show (#[.int .i64 9, .int .u64 ou, .int .i64 om, .int .i64 oe] : Array Value)[0]? = some (.int .i64 9) from rfl)
  have r1 := (cell_of_row wx w.heap.size 1 _ _ _ hr).trans (show (#[.int .i64 9, .int .u64 ou, .int .i64 om, .int .i64 oe] : Array Value)[1]? = some (.int .u64 ou) from rfl)
  have r2 := (cell_of_row wx w.heap.size 2 _ _ _ hr).trans (show (#[.int .i64 9, .int .u64 ou, .int .i64 om, .int .i64 oe] : Array Value)[2]? = some (.int .i64 om) from rfl)
  clear H bx sx h1 h2 hr
  go_enter Tryz.func21, Tryz.ntmps21
  go_upto_region 2 with (first | (refine wpList_alloc_row rfl 76 rfl gz (hzG _) ?_) | fail)
  rw [← hwx]
  clear hwx
  go_wp2_with fail
  refine HC.out.mono ?_
  rintro x w1 ⟨a, m, c, rfl, hp, hk⟩
  have hs1 := hk.size
  have g1 : w1.heap[w.heap.size + 1]? = some (.cells gz 76 (0, 0)) := by rw [hk.block _ (by omega) (by rw [SX.out]; omega)]; exact H1.out
  have g2 : w1.heap[w.heap.size + 2]? = some (.cells gz 76 (0, 0)) := by rw [hk.block _ (by omega) (by rw [SX.out]; omega)]; exact H2.out
  have HP := K.Hid.mk' hp
  clear hp hk HC r0 r1 r2 hs1
  have ec : gz.setIfInBounds 39 (.slice a m c) = gC (.int .u8 0) (.bool false) (.int .u64 0) (.int .i64 0) (.float .f64 0) (.string ⟨#[]⟩) (.slice none 0 0) z32 (.slice a m c) := by unfold gz gC gL; simp; rw [List.set_append_right _ _ (by rw [hcs_len, z32_len]; omega), hcs_len, z32_len]; rfl
  have q2 : (w1.setCell ⟨w.heap.size + 2, 39, none⟩ (.slice a m c)).heap[w.heap.size + 2]? = some (.cells (gC (.int .u8 0) (.bool false) (.int .u64 0) (.int .i64 0) (.float .f64 0) (.string ⟨#[]⟩) (.slice none 0 0) z32 (.slice a m c)) 76 (0, 0)) := by rw [heap_setCell_same w1 _ 39 _ 76 _ g2, ec]
  have q1 : (w1.setCell ⟨w.heap.size + 2, 39, none⟩ (.slice a m c)).heap[w.heap.size + 1]? = some (.cells gz 76 (0, 0)) := by rw [Below.heap_setCell _ _ _ _ (by show w.heap.size + 1 ≠ w.heap.size + 2; omega)]; exact g1
  have FX : Hid (Fx w.heap.size w1 (w1.setCell ⟨w.heap.size + 2, 39, none⟩ (.slice a m c))) := fx_cell _ _ _ _
  have Q1 := K.Hid.mk' q1
  have Q2 := K.Hid.mk' q2
  have hcz : (gC (.int .u8 0) (.bool false) (.int .u64 0) (.int .i64 0) (.float .f64 0) (.string ⟨#[]⟩) (.slice none 0 0) z32 (.slice a m c)).size = 40 := gC_size z32_len
  have hco : (gC (.int .u8 0) (.bool false) (.int .u64 0) (.int .i64 0) (.float .f64 0) (.string ⟨#[]⟩) (.slice none 0 0) z32 (.slice a m c)).all (·.oneCell') = true := gC_one rfl rfl rfl rfl rfl rfl rfl rfl
  have c2 := (cell_of_row w1 (w.heap.size + 2) 39 _ _ _ g2).trans (gC_39 z32_len : gz[39]? = some (.slice none 0 0))
  have f2 := frozen_of_row w1 (w.heap.size + 2) 39 _ _ g2
  clear g1 g2 q1 q2 ec
  generalize hgen : gC (.int .u8 0) (.bool false) (.int .u64 0) (.int .i64 0) (.float .f64 0) (.string ⟨#[]⟩) (.slice none 0 0) z32 (.slice a m c) = C at *
  have HG := K.Hid.mk' hgen
  clear hgen
  go_wp2_with (first
    | (refine wpList_load_arr rfl 76 _ rfl (w.heap.size + 2) rfl 76 C (0, 0) _ Q2.out Tryz.underlying76 rfl (by rw [hcz]; exact sizeGot) ?_)
    | (refine wpList_store_row rfl 76 _ _ rfl (w.heap.size + 1) C rfl rfl 76 gz Q1.out (by rw [hcz]; exact sizeGot) (by rw [gz_size, hcz]) hco ?_)
    | fail)
  exact bodyPost_ret (resRead _ _ (w.heap.size + 1) 76 C hcz (0, 0) rfl (setRow_heap _ _ _ _ _ _ Q1.out)) rfl ⟨a, m, c, by rw [HG.out], _, w1, BX.out, SX.out, HP.out, FX.out.trans (fx_end _ _ _)⟩

set_option maxRecDepth 100000 in
set_option maxHeartbeats 2000000 in
theorem read_8 (ptr : Option Addr) (ou om oe : Int) (h : List UInt8) (hh : h.length = 32) (w : World) (Post : World → World → Prop)
    (H : ∀ wx, Below w.heap.size w wx → wx.heap.size = w.heap.size + 3 → Calls Tryz.prog 79 #[.pointer ptr] wx fun x w1 => x = .returned (.agg (bs h)) ∧ Post wx w1 ∧ Keeps w.heap.size wx w1) :
    Calls Tryz.prog 21 #[.pointer ptr, .agg #[.int .i64 8, .int .u64 ou, .int .i64 om, .int .i64 oe]] w fun x w' => x = .returned (.agg (gC (.int .u8 0) (.bool false) (.int .u64 0) (.int .i64 0) (.float .f64 0) (.string ⟨#[]⟩) (.slice none 0 0) h (.slice none 0 0))) ∧ Rdd w Post w' := by
  obtain ⟨wx, hwx, bx, sx, hr, h1, h2⟩ := rd_blocks (w := w) (o := #[.int .i64 8, .int .u64 ou, .int .i64 om, .int .i64 oe]) (c := #[])
  have HC := K.Hid.mk' (H wx bx sx)
  have BX := K.Hid.mk' bx
  have SX := K.Hid.mk' sx
  have H1 := K.Hid.mk' h1
  have H2 := K.Hid.mk' h2
  have r0 := (cell_of_row wx w.heap.size 0 _ _ _ hr).trans (show (#[.int .i64 8, .int .u64 ou, .int .i64 om, .int .i64 oe] : Array Value)[0]? = some (.int .i64 8) from rfl)
  clear H bx sx h1 h2 hr
  go_enter Tryz.func21, Tryz.ntmps21
  go_upto_region 2 with (first | (refine wpList_alloc_row rfl 76 rfl gz (hzG _) ?_) | fail)
  rw [← hwx]
  clear hwx
  go_wp2_with fail
  refine HC.out.mono ?_
  rintro x w1 ⟨rfl, hp, hk⟩
  have hs1 := hk.size
  have g1 : w1.heap[w.heap.size + 1]? = some (.cells gz 76 (0, 0)) := by rw [hk.block _ (by omega) (by rw [SX.out]; omega)]; exact H1.out
  have g2 : w1.heap[w.heap.size + 2]? = some (.cells gz 76 (0, 0)) := by rw [hk.block _ (by omega) (by rw [SX.out]; omega)]; exact H2.out
  have HP := K.Hid.mk' hp
  clear hp hk HC r0 hs1
  have GA := gotAt_row z32_len g2 (show gz = _ from rfl)
  have hth : w1.there (w.heap.size + 2) 0 40 := fun j hj => by
    rw [cell_of_row w1 (w.heap.size + 2) (0 + j) _ _ _ g2, Array.getElem?_eq_getElem (by rw [gz_size]; omega)]
    exact ⟨rfl, frozen_of_row w1 (w.heap.size + 2) (0 + j) _ _ g2⟩
  have HT : Hid (w1.there (w.heap.size + 2) 7 32) := (by have := there_part (m := 32) (i := 7) hth (by omega); rwa [Nat.zero_add] at this : w1.there (w.heap.size + 2) 7 32)
  have FX : Hid (Fx w.heap.size w1 (w1.setCells (w.heap.size + 2) 7 (hcs h))) := fx_cells _ _ _ _
  have Q1 : Hid ((w1.setCells (w.heap.size + 2) 7 (hcs h)).heap[w.heap.size + 1]? = some (.cells gz 76 (0, 0))) := by
    show _ = _
    have := (below_setCells (Below.refl (w.heap.size + 2) w1) (Nat.le_refl _) 7 (hcs h)).block (w.heap.size + 1) (by omega)
    rw [this]; exact g1
  have ap : ∀ i x, w1.cell? ⟨w.heap.size + 2, i, none⟩ = some x → (i < 7 ∨ 39 ≤ i) → (w1.setCells (w.heap.size + 2) 7 (hcs h)).cell? ⟨w.heap.size + 2, i, none⟩ = some x := fun i x hx hi => by
    have hra : w1.rangeAt (w.heap.size + 2) i [x] := fun j v hv => by
      have hj : j = 0 := by have := (List.getElem?_eq_some_iff.1 hv).1; simp at this; omega
      subst hj
      simp at hv
      subst hv
      exact hx
    have := World.rangeAt_setCells_apart hra (w.heap.size + 2) 7 (hcs h) (by rw [hcs_len, hh]; simp; omega)
    exact this 0 x rfl
  have hhx : (w1.setCells (w.heap.size + 2) 7 (hcs h)).rangeAt (w.heap.size + 2) 7 (hcs h) := World.rangeAt_setCells_same _ _ _ _ (by rw [hcs_len, hh]; exact HT.out)
  have RG : Hid ((w1.setCells (w.heap.size + 2) 7 (hcs h)).rangeAt (w.heap.size + 2) 0 (gL (.int .u8 0) (.bool false) (.int .u64 0) (.int .i64 0) (.float .f64 0) (.string ⟨#[]⟩) (.slice none 0 0) h (.slice none 0 0))) := fun j v hv => by
    rw [Nat.zero_add]
    by_cases h7 : j < 7
    · have : j = 0 ∨ j = 1 ∨ j = 2 ∨ j = 3 ∨ j = 4 ∨ j = 5 ∨ j = 6 := by omega
      rcases this with e | e | e | e | e | e | e <;> subst e <;> simp [gL] at hv <;> subst hv
      · exact ap _ _ GA.c0 (by omega)
      · exact ap _ _ GA.c1 (by omega)
      · exact ap _ _ GA.c2 (by omega)
      · exact ap _ _ GA.c3 (by omega)
      · exact ap _ _ GA.c4 (by omega)
      · exact ap _ _ GA.c5 (by omega)
      · exact ap _ _ GA.c6 (by omega)
    · obtain ⟨i, rfl⟩ : ∃ i, j = i + 7 := ⟨j - 7, by omega⟩
      simp only [gL, List.getElem?_cons_succ] at hv
      by_cases hi : i < 32
      · rw [List.getElem?_append_left (by rw [hcs_len, hh]; exact hi)] at hv
        rw [show i + 7 = 7 + i by omega]
        exact hhx i v hv
      · rw [List.getElem?_append_right (by rw [hcs_len, hh]; omega), hcs_len, hh] at hv
        have hi2 : i - 32 = 0 := by have := (List.getElem?_eq_some_iff.1 hv).1; simp at this; omega
        rw [hi2] at hv
        simp at hv
        subst hv
        rw [show i + 7 = 39 by omega]
        exact ap _ _ GA.c39 (by omega)
  have hcz : (gC (.int .u8 0) (.bool false) (.int .u64 0) (.int .i64 0) (.float .f64 0) (.string ⟨#[]⟩) (.slice none 0 0) h (.slice none 0 0)).size = 40 := gC_size hh
  have hco : (gC (.int .u8 0) (.bool false) (.int .u64 0) (.int .i64 0) (.float .f64 0) (.string ⟨#[]⟩) (.slice none 0 0) h (.slice none 0 0)).all (·.oneCell') = true := gC_one rfl rfl rfl rfl rfl rfl rfl rfl
  have HLL : Hid ((gL (.int .u8 0) (.bool false) (.int .u64 0) (.int .i64 0) (.float .f64 0) (.string ⟨#[]⟩) (.slice none 0 0) h (.slice none 0 0)).length = 40) := gL_len hh
  have HEQ : Hid ((gL (.int .u8 0) (.bool false) (.int .u64 0) (.int .i64 0) (.float .f64 0) (.string ⟨#[]⟩) (.slice none 0 0) h (.slice none 0 0)).toArray = gC (.int .u8 0) (.bool false) (.int .u64 0) (.int .i64 0) (.float .f64 0) (.string ⟨#[]⟩) (.slice none 0 0) h (.slice none 0 0)) := (rfl : _ = _)
  clear g1 g2 GA hth ap hhx
  generalize hgen : gC (.int .u8 0) (.bool false) (.int .u64 0) (.int .i64 0) (.float .f64 0) (.string ⟨#[]⟩) (.slice none 0 0) h (.slice none 0 0) = C at *
  generalize gL (.int .u8 0) (.bool false) (.int .u64 0) (.int .i64 0) (.float .f64 0) (.string ⟨#[]⟩) (.slice none 0 0) h (.slice none 0 0) = CL at *
  have HG := K.Hid.mk' hgen
  clear hgen
  go_wp2_with (first
    | (refine wpList_store_mid rfl 36 _ _ rfl (w.heap.size + 2) 7 (bs h) rfl rfl (by rw [bs_size, hh]; exact HT.out) (by rw [bs_size, hh]; exact hsH) (bs_one _) ?_)
    | (refine wpList_load_midG rfl 76 _ rfl (w.heap.size + 2) 0 rfl CL _ RG.out Tryz.underlying76 rfl (by rw [HLL.out]; exact sizeGot) ?_; rw [HEQ.out])
    | (refine wpList_store_row rfl 76 _ _ rfl (w.heap.size + 1) C rfl rfl 76 gz Q1.out (by rw [hcz]; exact sizeGot) (by rw [gz_size, hcz]) hco ?_)
    | fail)
  exact bodyPost_ret (resRead _ _ (w.heap.size + 1) 76 C hcz (0, 0) rfl (setRow_heap _ _ _ _ _ _ Q1.out)) rfl ⟨by rw [HG.out], _, w1, BX.out, SX.out, HP.out, FX.out.trans (fx_end _ _ _)⟩

set_option maxRecDepth 100000 in
set_option maxHeartbeats 2000000 in
theorem read_10 (ptr : Option Addr) (ou om oe : Int) (w : World) (Post : World → World → Prop)
    (H : ∀ wx, Below w.heap.size w wx → wx.heap.size = w.heap.size + 3 → Calls Tryz.prog 81 #[.pointer ptr, .int .i64 oe, .int .i64 om] wx fun x w1 => x = .returned (.tuple #[]) ∧ Post wx w1 ∧ Keeps w.heap.size wx w1) :
    Calls Tryz.prog 21 #[.pointer ptr, .agg #[.int .i64 10, .int .u64 ou, .int .i64 om, .int .i64 oe]] w fun x w' => x = .returned (.agg gz) ∧ Rdd w Post w' := by
  obtain ⟨wx, hwx, bx, sx, hr, h1, h2⟩ := rd_blocks (w := w) (o := #[.int .i64 10, .int .u64 ou, .int .i64 om, .int .i64 oe]) (c := #[])
  have HC := K.Hid.mk' (H wx bx sx)
  have BX := K.Hid.mk' bx
  have SX := K.Hid.mk' sx
  have H1 := K.Hid.mk' h1
  have H2 := K.Hid.mk' h2
  have r0 := (cell_of_row wx w.heap.size 0 _ _ _ hr).trans (show (#[.int .i64 10, .int .u64 ou, .int .i64 om, .int .i64 oe] : Array Value)[0]? = some (.int .i64 10) from rfl)
  have r2 := (cell_of_row wx w.heap.size 2 _ _ _ hr).trans (show (#[.int .i64 10, .int .u64 ou, .int .i64 om, .int .i64 oe] : Array Value)[2]? = some (.int .i64 om) from rfl)
  have r3 := (cell_of_row wx w.heap.size 3 _ _ _ hr).trans (show (#[.int .i64 10, .int .u64 ou, .int .i64 om, .int .i64 oe] : Array Value)[3]? = some (.int .i64 oe) from rfl)
  clear H bx sx h1 h2 hr
  go_enter Tryz.func21, Tryz.ntmps21
  go_upto_region 2 with (first | (refine wpList_alloc_row rfl 76 rfl gz (hzG _) ?_) | fail)
  rw [← hwx]
  clear hwx
  go_wp2_with fail
  refine HC.out.mono ?_
  rintro x w1 ⟨rfl, hp, hk⟩
  have hs1 := hk.size
  have Q1 : Hid (w1.heap[w.heap.size + 1]? = some (.cells gz 76 (0, 0))) := by show _ = _; rw [hk.block _ (by omega) (by rw [SX.out]; omega)]; exact H1.out
  have Q2 : Hid (w1.heap[w.heap.size + 2]? = some (.cells gz 76 (0, 0))) := by show _ = _; rw [hk.block _ (by omega) (by rw [SX.out]; omega)]; exact H2.out
  have HP := K.Hid.mk' hp
  clear hp hk HC r0 r2 r3 hs1
  have hcz := gz_size
  have hco : gz.all (·.oneCell') = true := gC_one rfl rfl rfl rfl rfl rfl rfl rfl
  generalize hgen : gz = C at *
  have HG := K.Hid.mk' hgen
  clear hgen
  go_wp2_with (first
    | (refine wpList_load_arr rfl 76 _ rfl (w.heap.size + 2) rfl 76 C (0, 0) _ Q2.out Tryz.underlying76 rfl (by rw [hcz]; exact sizeGot) ?_)
    | (refine wpList_store_row rfl 76 _ _ rfl (w.heap.size + 1) C rfl rfl 76 C Q1.out (by rw [hcz]; exact sizeGot) rfl hco ?_)
    | fail)
  exact bodyPost_ret (resRead _ _ (w.heap.size + 1) 76 C hcz (0, 0) rfl (setRow_heap _ _ _ _ _ _ Q1.out)) rfl ⟨by rw [HG.out], _, w1, BX.out, SX.out, HP.out, fx_end _ _ _⟩

set_option maxRecDepth 100000 in
set_option maxHeartbeats 2000000 in
theorem read_no (ptr : Option Addr) (kd ou om oe : Int) (hkd : kd < 0 ∨ 10 < kd) (w : World) :
    Calls Tryz.prog 21 #[.pointer ptr, .agg #[.int .i64 kd, .int .u64 ou, .int .i64 om, .int .i64 oe]] w fun x w' => x = .returned (.agg gz) ∧ Rdd w (fun wx w1 => w1 = wx) w' := by
  obtain ⟨wx, hwx, bx, sx, hr, h1, h2⟩ := rd_blocks (w := w) (o := #[.int .i64 kd, .int .u64 ou, .int .i64 om, .int .i64 oe]) (c := #[])
  have BX := K.Hid.mk' bx
  have SX := K.Hid.mk' sx
  have Q1 := K.Hid.mk' h1
  have Q2 := K.Hid.mk' h2
  have r0 := (cell_of_row wx w.heap.size 0 _ _ _ hr).trans (show (#[.int .i64 kd, .int .u64 ou, .int .i64 om, .int .i64 oe] : Array Value)[0]? = some (.int .i64 kd) from rfl)
  have k0 : ¬ kd = 0 := by omega
  have k1 : ¬ kd = 1 := by omega
  have k2 : ¬ kd = 2 := by omega
  have k3 : ¬ kd = 3 := by omega
  have k4 : ¬ kd = 4 := by omega
  have k5 : ¬ kd = 5 := by omega
  have k6 : ¬ kd = 6 := by omega
  have k7 : ¬ kd = 7 := by omega
  have k8 : ¬ kd = 8 := by omega
  have k9 : ¬ kd = 9 := by omega
  have k10 : ¬ kd = 10 := by omega
  clear bx sx h1 h2 hr hkd
  go_enter Tryz.func21, Tryz.ntmps21
  go_upto_region 2 with (first | (refine wpList_alloc_row rfl 76 rfl gz (hzG _) ?_) | fail)
  rw [← hwx]
  clear hwx
  have hcz := gz_size
  have hco : gz.all (·.oneCell') = true := gC_one rfl rfl rfl rfl rfl rfl rfl rfl
  generalize hgen : gz = C at *
  have HG := K.Hid.mk' hgen
  clear hgen
  go_wp2_with (first
    | (refine wpList_load_arr rfl 76 _ rfl (w.heap.size + 2) rfl 76 C (0, 0) _ Q2.out Tryz.underlying76 rfl (by rw [hcz]; exact sizeGot) ?_)
    | (refine wpList_store_row rfl 76 _ _ rfl (w.heap.size + 1) C rfl rfl 76 C Q1.out (by rw [hcz]; exact sizeGot) rfl hco ?_)
    | fail)
  exact bodyPost_ret (resRead _ _ (w.heap.size + 1) 76 C hcz (0, 0) rfl (setRow_heap _ _ _ _ _ _ Q1.out)) rfl ⟨by rw [HG.out], _, _, BX.out, SX.out, rfl, fx_end _ _ _⟩
end Go.Proofs.YtdnocpngdepbgaaGreatDoor

