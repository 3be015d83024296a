import Derived.Test.YtbpmpcmmdiaiiaaDoorP1
import Derived.Test.YtbpmpcmmdiaiiaaDoorP0
import Derived.Laws.BitsAllLaws
import Derived.Laws.BytesArg
import Derived.Laws.IdiomStrings
import Ieee.Arith
namespace Go.Proofs.YtbpmpcmmdiaiiaaDoor.K
open Go.RowKit
set_option linter.unusedVariables false
set_option linter.unusedSimpArgs false

theorem run_app2 (w : World) (base : Nat) (ty : TypeId) (v : Value) (L : List UInt8) (a : Option Addr) (M : List UInt8) (c : Nat) (hown : OwnB w base v L) (hb : Byt w a M)
    (h : L.length + M.length ≤ 140737488355328) (hbase : base ≤ w.heap.size) :
    ∃ v' w', (Builtin.append_ #[29, 29] ty #[v, .slice a M.length c]).run Tryd.prog w = .ok v' w' ∧ OwnB w' base v' (L ++ M) ∧ w.grownBy w' v.ownBlock ∧ (v'.ownBlock = v.ownBlock ∨ v'.ownBlock = some w.heap.size) := by
  obtain ⟨i, hi, hz, hs, hby⟩ := info5'
  cases a with
  | some ad =>
    have hnews : ∀ j u, (byC M)[j]? = some u → w.cell? (ad.add j) = some u := fun j u hj => by
      obtain ⟨h1, rfl⟩ := byC_get _ j u hj
      rcases hb with rfl | ⟨b, off, e, hc⟩
      · simp at h1
      · cases e
        rw [Addr.add_mid]
        exact hc j h1
    obtain ⟨v', w', hr, h2, h3, _, h5⟩ := run_append_own_at (P := Tryd.prog) w base 29 ty 5 i (.int .u8 0) 1 1 Tryd.underlying29 hi hz hs hby rfl (by decide) v L.length (byC L) hown ad M.length c (byC M) (by rw [byC_len]; omega) hnews (byC_one _) (by unfold maxLen; omega) (by omega) hbase
    refine ⟨v', w', hr, ?_, h3, h5⟩
    unfold OwnB
    rw [List.length_append, show byC (L ++ M) = byC L ++ byC M by simp [byC]]
    exact h2
  | none =>
    obtain rfl : M = [] := by
      rcases hb with rfl | ⟨b, off, e, _⟩
      · rfl
      · cases e
    rcases hown.2 with ⟨rfl, hn⟩ | ⟨g, cap, cur, rfl, hbg, hg, hnc, rest⟩
    · refine ⟨.slice none 0 0, w, ?_, by rw [List.append_nil]; exact hown, ⟨rfl, rfl, rfl, Nat.le_refl _, fun _ _ _ => rfl⟩, .inl rfl⟩
      simp [Builtin.append_, run_underlying Tryd.underlying29, sizeOf, typeInfo, hi, Builtin.lenOf, Builtin.firstCells, loadCells, loadCellsFrom]
    · refine ⟨.slice (some ⟨g, 0, none⟩) L.length cap, w, ?_, by rw [List.append_nil]; exact hown, ⟨rfl, rfl, rfl, Nat.le_refl _, fun _ _ _ => rfl⟩, .inl rfl⟩
      simp [Builtin.append_, run_underlying Tryd.underlying29, sizeOf, typeInfo, hi, Builtin.lenOf, Builtin.firstCells, hnc, storeCells]
theorem wpList_app2 {ops : Array Oper} {rest : List Oper} {o : Oper} {a : Act} {w : World} {Q : Exit → Act → World → Prop} (hgd : o.guard = none) (s x : Operand)
    (ho : o.op = .call { callee := .builtin .append, args := #[s, x], argTypes := #[29, 29] }) (base : Nat) (v : Value) (L : List UInt8) (hs : a.eval s = v) (hown : OwnB w base v L)
    (aa : Option Addr) (m c : Nat) (M : List UInt8) (hx : a.eval x = .slice aa m c) (hm : M.length = m) (hb : Byt w aa M) (hlen : L.length + M.length ≤ 140737488355328) (hbase : base ≤ w.heap.size)
    (h : ∀ v' w', OwnB w' base v' (L ++ M) → w.grownBy w' v.ownBlock → (v'.ownBlock = v.ownBlock ∨ v'.ownBlock = some w.heap.size) → wpList Tryd.prog ops Q rest (a.put o.dst v') w') : wpList Tryd.prog ops Q (o :: rest) a w :=
  wpList_plain hgd fun _ hK => by
    subst hm
    obtain ⟨v', w', hr, h2, h3, h4⟩ := run_app2 w base o.type v L aa M c hown hb hlen hbase
    unfold Oper.wp execOp
    simp only [ho, resolve, invoke, builtin, Sem.run_bind, Sem.run_pure, Result.andThen_ok, List.map_toArray, List.map_cons, List.map_nil, hs, hx, hr]
    exact hK _ _ (h v' w' h2 h3 h4)
theorem own_setCell {w : World} {q base j : Nat} {v u : Value} {L : List UInt8} (h : OwnB w base v L) (hq : v.ownBlock ≠ some q) : OwnB (w.setCell ⟨q, j, none⟩ u) base v L := by
  refine ⟨h.1, ?_⟩
  rcases h.2 with hn | ⟨g, cap, cur, rfl, hbg, hg, rest⟩
  · exact .inl hn
  · refine .inr ⟨g, cap, cur, rfl, hbg, ?_, rest⟩
    rw [Below.heap_setCell _ _ _ _ (fun e => hq (by simp [Value.ownBlock]; exact e))]
    exact hg
/-- A Writer (of either side): its bytes lie in a row of its own, block g. -/
structure WS (w : World) (T : TypeId) (p : Nat) (g : Option Nat) (M : List UInt8) (e : Int) : Prop where
  ex : ∃ v, w.heap[p]? = some (.cells #[v, .int .i64 e] T (0, 0)) ∧ OwnB w 0 v M ∧ v.ownBlock = g
  ne : g ≠ some p
/-- All but the Writer's block and its row is as it was. -/
structure FrW (p : Nat) (g : Option Nat) (w w' : World) : Prop where
  os : w'.os = w.os
  tape : w'.tape = w.tape
  output : w'.output = w.output
  size : w.heap.size ≤ w'.heap.size
  block : ∀ k, k < w.heap.size → k ≠ p → some k ≠ g → w'.heap[k]? = w.heap[k]?
def Nw (g g' : Option Nat) (z : Nat) : Prop := g' = g ∨ ∃ k, g' = some k ∧ z ≤ k
/-- The Writer has gone on. -/
def Wr (w w' : World) (T : TypeId) (p : Nat) (g : Option Nat) (M' : List UInt8) (e' : Int) : Prop := ∃ g', WS w' T p g' M' e' ∧ FrW p g w w' ∧ Nw g g' w.heap.size
theorem WS.lt {w : World} {T : TypeId} {p : Nat} {g : Option Nat} {M : List UInt8} {e : Int} (h : WS w T p g M e) : p < w.heap.size := by
  obtain ⟨v, h1, _⟩ := h.ex
  exact (Array.getElem?_eq_some_iff.1 h1).1
theorem WS.below {w w' : World} {T : TypeId} {p : Nat} {g : Option Nat} {M : List UInt8} {e : Int} (h : WS w T p g M e) (hb : Below w.heap.size w w') : WS w' T p g M e := by
  obtain ⟨v, h1, h2, h3⟩ := h.ex
  exact ⟨⟨v, by rw [hb.block _ (Array.getElem?_eq_some_iff.1 h1).1]; exact h1, h2.below hb, h3⟩, h.ne⟩
theorem FrW.refl (p : Nat) (g : Option Nat) (w : World) : FrW p g w w := ⟨rfl, rfl, rfl, Nat.le_refl _, fun _ _ _ _ => rfl⟩
theorem FrW.of_below {p : Nat} {g : Option Nat} {w w' : World} (h : Below w.heap.size w w') : FrW p g w w' := ⟨h.os, h.tape, h.output, h.size, fun k hk _ _ => h.block k hk⟩
theorem FrW.trans {p : Nat} {g g1 : Option Nat} {a b c : World} (h : FrW p g a b) (k : FrW p g1 b c) (hg : Nw g g1 a.heap.size) : FrW p g a c :=
  ⟨k.os.trans h.os, k.tape.trans h.tape, k.output.trans h.output, Nat.le_trans h.size k.size, fun i hi hp hn => (k.block i (by have := h.size; omega) hp (by
    rcases hg with e | ⟨x, e, hx⟩
    · rw [e]; exact hn
    · rw [e]; intro h2; cases h2; omega)).trans (h.block i hi hp hn)⟩
theorem Nw.trans {g g1 g2 : Option Nat} {z z1 : Nat} (h : Nw g g1 z) (k : Nw g1 g2 z1) (hz : z ≤ z1) : Nw g g2 z := by
  rcases k with e | ⟨x, e, hx⟩
  · rw [e]; exact h
  · exact .inr ⟨x, e, by omega⟩
theorem Wr.step {w w1 w2 : World} {T : TypeId} {p : Nat} {g g1 : Option Nat} {M2 : List UInt8} {e2 : Int} (h1 : FrW p g w w1) (h2 : Nw g g1 w.heap.size) (h : Wr w1 w2 T p g1 M2 e2) : Wr w w2 T p g M2 e2 := by
  obtain ⟨g2, a, b, c⟩ := h
  exact ⟨g2, a, h1.trans b h2, h2.trans c h1.size⟩
theorem WS.wr {w : World} {T : TypeId} {p : Nat} {g : Option Nat} {M : List UInt8} {e : Int} (h : WS w T p g M e) : Wr w w T p g M e := ⟨g, h, FrW.refl _ _ _, .inl rfl⟩
theorem Wr.pre {w w0 w1 : World} {T : TypeId} {p : Nat} {g : Option Nat} {M : List UInt8} {e : Int} (hb : Below w.heap.size w w0) (h : Wr w0 w1 T p g M e) : Wr w w1 T p g M e := Wr.step (FrW.of_below hb) (.inl rfl) h
theorem Wr.post {w w1 w2 : World} {T : TypeId} {p : Nat} {g : Option Nat} {M : List UInt8} {e : Int} (h : Wr w w1 T p g M e) (hb : Below w1.heap.size w1 w2) : Wr w w2 T p g M e := by
  obtain ⟨g1, a, b, c⟩ := h
  exact ⟨g1, a.below hb, b.trans (FrW.of_below (g := g1) hb) c, c⟩
theorem Wr.then {w w1 w2 : World} {T : TypeId} {p : Nat} {g : Option Nat} {M1 M2 : List UInt8} {e1 e2 : Int} (h : Wr w w1 T p g M1 e1) (k : ∀ g1, WS w1 T p g1 M1 e1 → Wr w1 w2 T p g1 M2 e2) : Wr w w2 T p g M2 e2 := by
  obtain ⟨g1, a, b, c⟩ := h
  exact Wr.step b c (k g1 a)
/-- What is written, where there is no error. -/
def wA (M : List UInt8) (e : Int) (B : List UInt8) : List UInt8 := if e = 0 then M ++ B else M
theorem wA_0 (M B : List UInt8) : wA M 0 B = M ++ B := by simp [wA]
theorem wA_no (M B : List UInt8) (e : Int) (h : e ≠ 0) : wA M e B = M := by simp [wA, h]
theorem wA_nil (M : List UInt8) (e : Int) : wA M e [] = M := by unfold wA; split <;> simp
theorem wA_wA (M : List UInt8) (e : Int) (B C : List UInt8) : wA (wA M e B) e C = wA M e (B ++ C) := by
  unfold wA
  split <;> simp
theorem wA_len (M : List UInt8) (e : Int) (B : List UInt8) : (wA M e B).length ≤ M.length + B.length := by
  unfold wA
  split <;> simp
theorem byt_lit (w : World) (l : List UInt8) (t : TypeId) : Byt (w.alloc (.cells (bs l) t)) (some ⟨w.heap.size, 0, none⟩) l :=
  .inr ⟨w.heap.size, 0, rfl, fun j hj => by rw [Nat.zero_add]; exact (cell_of_row _ w.heap.size j _ _ _ (heap_alloc_new _ _)).trans (bs_get _ j hj)⟩
variable {p : Nat} {g : Option Nat} {M : List UInt8} {e : Int}
set_option maxRecDepth 100000 in
set_option maxHeartbeats 2000000 in
theorem add_any (B : List UInt8) (a : Option Addr) (len cap : Nat) (w : World) (hw : WS w 50 p g M e) (hlen : B.length = len) (hb : Byt w a B) (hsum : M.length + B.length ≤ 140737488355328) :
    Calls Tryd.prog 54 #[.pointer (some ⟨p, 0, none⟩), .slice a len cap] w fun x w' => x = .returned (.tuple #[]) ∧ Wr w w' 50 p g (wA M e B) e := by
  by_cases he : e = 0
  · subst he
    rw [wA_0]
    have hne := hw.ne
    obtain ⟨v, hq, own, hg⟩ := hw.ex
    have zq : p < w.heap.size := (Array.getElem?_eq_some_iff.1 hq).1
    have c0 := (cell_of_row w p 0 _ _ _ hq).trans (show (#[v, .int .i64 0] : Array Value)[0]? = some v from rfl)
    have c1 := (cell_of_row w p 1 _ _ _ hq).trans (show (#[v, .int .i64 0] : Array Value)[1]? = some (.int .i64 0) from rfl)
    obtain ⟨av, cv, rfl, hcv, byv, hav⟩ := own.open
    have HO : Hid (OwnB w 0 (.slice av M.length cv) M) := own
    have HB : Hid (Byt w a B) := hb
    have HS : Hid (M.length + B.length ≤ 140737488355328) := hsum
    have HG := Hid.mk' hg
    clear hg hw
    go_enter Tryd.func54, Tryd.ntmps54
    go_wp2_with (first | (at_builtin; refine wpList_app2 rfl (.tmp 17) (.tmp 18) rfl 0 (.slice av M.length cv) M rfl HO.out a len cap B rfl hlen HB.out HS.out (Nat.zero_le _) ?_) | fail)
    intro v' w1 own1 gr1 hblk
    have hq1 : w1.heap[p]? = some (.cells #[.slice av M.length cv, .int .i64 0] 50 (0, 0)) := by rw [gr1.block p zq (fun e => hne (HG.out.symm.trans e.symm))]; exact hq
    have d0 := (cell_of_row w1 p 0 _ _ _ hq1).trans (show (#[.slice av M.length cv, .int .i64 0] : Array Value)[0]? = some (.slice av M.length cv) from rfl)
    have f0 := frozen_of_row w1 p 0 _ _ hq1
    have hblk' : Nw g v'.ownBlock w.heap.size := by
      rcases hblk with e | e
      · exact .inl (e.trans HG.out)
      · exact .inr ⟨_, e, Nat.le_refl _⟩
    have hne1 : v'.ownBlock ≠ some p := by
      rcases hblk' with e | ⟨k, e, hk⟩
      · rw [e]; exact hne
      · rw [e]; intro h; simp at h; omega
    have W1 : Hid (Wr w (w1.setCell ⟨p, 0, none⟩ v') 50 p g (M ++ B) 0) := by
      refine ⟨v'.ownBlock, ⟨⟨v', by rw [heap_setCell_same w1 p 0 _ 50 _ hq1]; rfl, own_setCell own1 hne1, rfl⟩, hne1⟩, ⟨gr1.os, gr1.tape, gr1.output, by simp [World.setCell]; exact gr1.size, fun k hk hp hn => ?_⟩, hblk'⟩
      rw [Below.heap_setCell _ _ _ _ hp, gr1.block k hk (fun e => hn (e.trans HG.out))]
    obtain ⟨av', cv', rfl, _⟩ := own1.open
    rw [List.length_append, hlen] at W1
    clear own1 gr1 hblk hblk' hne1 HO HB HS HG
    go_wp2
    go_end0
    exact ⟨rfl, W1.out⟩
  · rw [wA_no M B e he]
    obtain ⟨v, hq, own, hg⟩ := hw.ex
    have c1 := (cell_of_row w p 1 _ _ _ hq).trans (show (#[v, .int .i64 e] : Array Value)[1]? = some (.int .i64 e) from rfl)
    have HW := Hid.mk' hw.wr
    clear hw own hg hq
    go_enter Tryd.func54, Tryd.ntmps54
    go_wp2
    exact bodyPost_ret (results_none Tryd.results54 _ _ _) rfl ⟨rfl, HW.out⟩
end Go.Proofs.YtbpmpcmmdiaiiaaDoor.K

namespace Go.Proofs.YtbpmpcmmdiaiiaaDoor.K
open Go.RowKit
set_option linter.unusedVariables false
set_option linter.unusedSimpArgs false

def vint (v : Nat) : List UInt8 := if h : v < 128 then [UInt8.ofNat v] else UInt8.ofNat (v % 128 + 128) :: vint (v / 128)
termination_by v
decreasing_by omega
theorem vint_lt {v : Nat} (h : v < 128) : vint v = [UInt8.ofNat v] := by rw [vint]; simp [h]
theorem vint_ge {v : Nat} (h : ¬ v < 128) : vint v = UInt8.ofNat (v % 128 + 128) :: vint (v / 128) := by rw [vint]; simp [h]
theorem vint_len : ∀ (f v : Nat), v < 128 ^ (f + 1) → (vint v).length ≤ f + 1
  | 0, v, h => by rw [vint_lt (by simpa using h)]; simp
  | f + 1, v, h => by
    by_cases hv : v < 128
    · rw [vint_lt hv]; simp
    · rw [vint_ge hv]
      have : v / 128 < 128 ^ (f + 1) := by rw [Nat.pow_succ] at h; omega
      have := vint_len f (v / 128) this
      simp
      omega
theorem vint_10 (v : Nat) (h : v < 18446744073709551616) : (vint v).length ≤ 10 := vint_len 9 v (by
  have : (18446744073709551616 : Nat) < 128 ^ 10 := by decide
  omega)
theorem or128N : ∀ x, x < 256 → bits .or .u8 ((x : Nat) : Int) 128 = ((x % 128 + 128 : Nat) : Int) := by decide +kernel
variable {p : Nat} {g : Option Nat} {M : List UInt8} {e : Int}
theorem add_one (k : UInt8) (kv : Int) (hk : kv = (k.toNat : Int)) (w : World) (hw : WS w 50 p g M e) (hsum : M.length + 1 ≤ 140737488355328) :
    Calls Tryd.prog 54 #[.pointer (some ⟨p, 0, none⟩), .slice (some ⟨w.heap.size, 0, none⟩) 1 1] (w.alloc (.cells #[.int .u8 kv] 5)) fun x w' => x = .returned (.tuple #[]) ∧ Wr w w' 50 p g (wA M e [k]) e := by
  subst hk
  have be : Below w.heap.size w (w.alloc (.cells (bs [k]) 5)) := (Below.refl _ _).alloc (Nat.le_refl _) _
  exact (add_any [k] (some ⟨w.heap.size, 0, none⟩) 1 1 (w.alloc (.cells (bs [k]) 5)) (hw.below be) rfl (byt_lit w [k] 5) (by simpa using hsum)).mono fun x w' h => ⟨h.1, Wr.pre be h.2⟩
set_option maxRecDepth 100000 in
set_option maxHeartbeats 1000000 in
theorem wbyte_any (k : UInt8) (kv : Int) (hk : kv = (k.toNat : Int)) (w : World) (hw : WS w 50 p g M e) (hsum : M.length + 1 ≤ 140737488355328) :
    Calls Tryd.prog 28 #[.pointer (some ⟨p, 0, none⟩), .int .u8 kv] w fun x w' => x = .returned (.tuple #[]) ∧ Wr w w' 50 p g (wA M e [k]) e := by
  subst hk
  have H := Hid.mk' (add_one k _ rfl w hw hsum)
  clear hw
  go_enter Tryd.func28, Tryd.ntmps28
  go_wp2_with fail
  refine H.out.mono ?_
  rintro x w1 ⟨rfl, ho⟩
  have HO := Hid.mk' ho
  clear ho
  go_wp2
  go_end0
  exact ⟨rfl, HO.out⟩
set_option maxRecDepth 100000 in
set_option maxHeartbeats 1000000 in
theorem wbool_any (b : Bool) (w : World) (hw : WS w 50 p g M e) (hsum : M.length + 1 ≤ 140737488355328) :
    Calls Tryd.prog 29 #[.pointer (some ⟨p, 0, none⟩), .bool b] w fun x w' => x = .returned (.tuple #[]) ∧ Wr w w' 50 p g (wA M e [if b = true then 1 else 0]) e := by
  have H0 := Hid.mk' (add_one 0 0 rfl w hw hsum)
  have H1 := Hid.mk' (add_one 1 1 rfl w hw hsum)
  clear hw
  cases b
  · go_enter Tryd.func29, Tryd.ntmps29
    go_wp2_with fail
    refine H0.out.mono ?_
    rintro x w1 ⟨rfl, ho⟩
    have HO := Hid.mk' ho
    clear ho
    go_wp2
    go_end0
    exact ⟨rfl, HO.out⟩
  · go_enter Tryd.func29, Tryd.ntmps29
    go_wp2_with fail
    refine H1.out.mono ?_
    rintro x w1 ⟨rfl, ho⟩
    have HO := Hid.mk' ho
    clear ho
    go_wp2
    go_end0
    exact ⟨rfl, HO.out⟩
set_option maxRecDepth 100000 in
set_option maxHeartbeats 1000000 in
theorem wuint_any (v : Nat) (hv : v < 18446744073709551616) (w : World) (hw : WS w 50 p g M e) (hsum : M.length + 64 ≤ 140737488355328) :
    Calls Tryd.prog 20 #[.pointer (some ⟨p, 0, none⟩), .int .u64 (v : Int)] w fun x w' => x = .returned (.tuple #[]) ∧ Wr w w' 50 p g (wA M e (vint v)) e := by
  have HV : Hid ((vint v).length ≤ 10) := vint_10 v hv
  have HS : Hid (M.length + 64 ≤ 140737488355328) := hsum
  clear hsum
  go_enter Tryd.func20, Tryd.ntmps20
  go_wp2_with fail
  go_loopw [1] (fun x wr => ∃ (n : Nat) (P : List UInt8), x = .int .u64 (n : Int) ∧ n < 18446744073709551616 ∧ Hid (P ++ vint n = vint v) ∧ Hid (Wr w wr 50 p g (wA M e P) e)) (fun x _ => (intOf x).toNat)
  case atStart => exact ⟨v, [], rfl, hv, rfl, by show Wr _ _ _ _ _ _ _; rw [wA_nil]; exact hw.wr⟩
  case round =>
    clear hw
    obtain ⟨n, P, rfl, hn, HP, HW⟩ := hrel
    obtain ⟨g1, ws, fr, nw⟩ := HW.out
    have hPl : P.length ≤ 10 := by
      have h1 := HV.out
      rw [← HP.out, List.length_append] at h1
      omega
    have hwl : (wA M e P).length + 1 ≤ 140737488355328 := by have := wA_len M e P; have := HS.out; omega
    by_cases hlt : n < 128
    · have hlt' : (n : Int) < 128 := by omega
      have H := Hid.mk' ((add_one (UInt8.ofNat n) (n : Int) (by rw [UInt8.toNat_ofNat']; omega) wr ws hwl).mono fun x w' h => And.intro h.1 (Wr.step fr nw h.2))
      rw [wA_wA, show P ++ [UInt8.ofNat n] = vint v by rw [← HP.out, vint_lt hlt]] at H
      clear ws fr nw HW HP hwl
      go_wp2_with fail
      refine H.out.mono ?_
      rintro x w1 ⟨rfl, ho⟩
      have HO := Hid.mk' ho
      clear ho
      go_wp2
      go_end0
      exact ⟨rfl, HO.out⟩
    · have hlt' : ¬ (n : Int) < 128 := by omega
      have hbt : bits .or .u8 ((n : Int) % 256) 128 = ((UInt8.ofNat (n % 128 + 128)).toNat : Int) := by
        have := or128N (n % 256) (by omega)
        rw [show (((n % 256 : Nat)) : Int) = (n : Int) % 256 by omega] at this
        rw [this, UInt8.toNat_ofNat']
        omega
      have H : Hid (∀ kv : Int, kv = ((UInt8.ofNat (n % 128 + 128)).toNat : Int) → Calls Tryd.prog 54 #[.pointer (some ⟨p, 0, none⟩), .slice (some ⟨wr.heap.size, 0, none⟩) 1 1] (wr.alloc (.cells #[.int .u8 kv] 5)) fun x w' => x = .returned (.tuple #[]) ∧ Wr w w' 50 p g (wA M e (P ++ [UInt8.ofNat (n % 128 + 128)])) e) := fun kv hk => (add_one (UInt8.ofNat (n % 128 + 128)) kv hk wr ws hwl).mono fun x w' h => by
        rw [wA_wA] at h
        exact And.intro h.1 (Wr.step fr nw h.2)
      clear ws fr nw HW hwl
      have hP2 : Hid (P ++ [UInt8.ofNat (n % 128 + 128)] ++ vint (n / 128) = vint v) := by
        show _ = _
        rw [← HP.out, vint_ge hlt]
        simp
      go_wp2_with fail
      refine (H.out _ (by first | rfl | (rw [UInt8.toNat_ofNat']; omega))).mono ?_
      rintro x w1 ⟨rfl, ho⟩
      have HO := Hid.mk' ho
      clear ho hbt
      go_wp2
      exact ⟨⟨n / 128, P ++ [UInt8.ofNat (n % 128 + 128)], by first | rfl | (congr 1; omega), by omega, hP2, HO⟩, by simp [intOf]; omega⟩

def b4 (n : Nat) : List UInt8 := [UInt8.ofNat (n / 16777216), UInt8.ofNat (n / 65536), UInt8.ofNat (n / 256), UInt8.ofNat n]
theorem b4_cells (n : Nat) (hn : n < 4294967296) : (bs (b4 n)) = #[.int .u8 ((n : Int) / 16777216), .int .u8 ((n : Int) / 65536 % 256), .int .u8 ((n : Int) / 256 % 256), .int .u8 ((n : Int) % 256)] := by
  unfold bs b4
  simp [UInt8.toNat_ofNat', Int.natCast_emod, Int.natCast_ediv]
  omega
set_option maxRecDepth 100000 in
set_option maxHeartbeats 1000000 in
theorem wfix_any (n : Nat) (hn : n < 4294967296) (w : World) (hw : WS w 50 p g M e) (hsum : M.length + 4 ≤ 140737488355328) :
    Calls Tryd.prog 30 #[.pointer (some ⟨p, 0, none⟩), .int .u32 (n : Int)] w fun x w' => x = .returned (.tuple #[]) ∧ Wr w w' 50 p g (wA M e (b4 n)) e := by
  have be : Below w.heap.size w (w.alloc (.cells (bs (b4 n)) 5)) := (Below.refl _ _).alloc (Nat.le_refl _) _
  have H := Hid.mk' ((add_any (b4 n) (some ⟨w.heap.size, 0, none⟩) 4 4 (w.alloc (.cells (bs (b4 n)) 5)) (hw.below be) rfl (byt_lit w (b4 n) 5) (by show M.length + 4 ≤ _; exact hsum)).mono fun x w' h => And.intro h.1 (Wr.pre be h.2))
  rw [b4_cells n hn] at H
  clear hw be
  go_enter Tryd.func30, Tryd.ntmps30
  go_wp2_with fail
  refine H.out.mono ?_
  rintro x w1 ⟨rfl, ho⟩
  have HO := Hid.mk' ho
  clear ho
  go_wp2
  go_end0
  exact ⟨rfl, HO.out⟩
/-- 2n, or -2n - 1 of a number below 0. -/
def zig (n : Int) : Nat := if n < 0 then (-2 * n - 1).toNat else (2 * n).toNat
theorem not64n (x : Nat) (h : x < 18446744073709551616) : bits .xor .u64 IntKind.u64.max (x : Int) = ((18446744073709551615 - x : Nat) : Int) := by
  show IntKind.u64.wrap ((BitVec.ofInt 64 IntKind.u64.max ^^^ BitVec.ofInt 64 (x : Int)).toNat : Int) = _
  rw [show BitVec.ofInt 64 IntKind.u64.max = BitVec.allOnes 64 by decide, BitVec.allOnes_xor, BitVec.toNat_not, BitVec.toNat_ofInt, IntKind.wrap_u64]
  omega
set_option maxRecDepth 100000 in
set_option maxHeartbeats 1000000 in
theorem wint_any (n : Int) (h0 : -9223372036854775808 ≤ n) (h1 : n < 9223372036854775808) (w : World) (hw : WS w 50 p g M e) (hsum : M.length + 64 ≤ 140737488355328) :
    Calls Tryd.prog 21 #[.pointer (some ⟨p, 0, none⟩), .int .i64 n] w fun x w' => x = .returned (.tuple #[]) ∧ Wr w w' 50 p g (wA M e (vint (zig n))) e := by
  have hz : zig n < 18446744073709551616 := by unfold zig; split <;> omega
  have H : Hid (∀ v : Int, v = (zig n : Int) → Calls Tryd.prog 20 #[.pointer (some ⟨p, 0, none⟩), .int .u64 v] w fun x w' => x = .returned (.tuple #[]) ∧ Wr w w' 50 p g (wA M e (vint (zig n))) e) := fun v hv => by rw [hv]; exact wuint_any (zig n) hz w hw hsum
  clear hw hsum
  by_cases hn : n < 0
  · go_enter Tryd.func21, Tryd.ntmps21
    go_wp2_with fail
    refine (H.out _ ?_).mono ?_
    · have hw : IntKind.u64.wrap (IntKind.u64.wrap n * 2) = ((18446744073709551615 - zig n : Nat) : Int) := by
        rw [IntKind.wrap_u64, IntKind.wrap_u64]
        unfold zig
        rw [if_pos hn]
        omega
      rw [hw, not64n _ (by omega)]
      omega
    rintro x w1 ⟨rfl, ho⟩
    have HO := Hid.mk' ho
    clear ho
    go_wp2
    go_end0
    exact ⟨rfl, HO.out⟩
  · go_enter Tryd.func21, Tryd.ntmps21
    go_wp2_with fail
    refine (H.out _ ?_).mono ?_
    · unfold zig
      rw [if_neg (by omega)]
      omega
    rintro x w1 ⟨rfl, ho⟩
    have HO := Hid.mk' ho
    clear ho
    go_wp2
    go_end0
    exact ⟨rfl, HO.out⟩
set_option maxRecDepth 100000 in
set_option maxHeartbeats 1000000 in
theorem wfail_any (c : Int) (w : World) (hw : WS w 50 p g M e) :
    Calls Tryd.prog 38 #[.pointer (some ⟨p, 0, none⟩), .int .i64 c] w fun x w' => x = .returned (.tuple #[]) ∧ Wr w w' 50 p g M (if e = 0 then c else e) := by
  obtain ⟨v, hq, own, hg⟩ := hw.ex
  have c1 := (cell_of_row w p 1 _ _ _ hq).trans (show (#[v, .int .i64 e] : Array Value)[1]? = some (.int .i64 e) from rfl)
  have f1 := frozen_of_row w p 1 _ _ hq
  by_cases he : e = 0
  · subst he
    rw [if_pos rfl]
    have HW : Hid (Wr w (w.setCell ⟨p, 1, none⟩ (.int .i64 c)) 50 p g M c) := by
      refine ⟨g, ⟨⟨v, by rw [heap_setCell_same w p 1 _ 50 _ hq]; rfl, own_setCell own (by rw [hg]; exact hw.ne), hg⟩, hw.ne⟩, ⟨rfl, rfl, rfl, by simp [World.setCell], fun k hk hp hn => Below.heap_setCell _ _ _ _ hp⟩, .inl rfl⟩
    clear hw own hg hq
    go_enter Tryd.func38, Tryd.ntmps38
    go_wp2
    go_end0
    exact ⟨rfl, HW.out⟩
  · rw [if_neg he]
    have HW := Hid.mk' hw.wr
    clear hw own hg hq
    go_enter Tryd.func38, Tryd.ntmps38
    go_wp2
    go_end0
    exact ⟨rfl, HW.out⟩
end Go.Proofs.YtbpmpcmmdiaiiaaDoor.K

namespace Go.Proofs.YtbpmpcmmdiaiiaaDoor.K
open Go.RowKit
set_option linter.unusedVariables false
set_option linter.unusedSimpArgs false

theorem conv_str (s : ByteArray) (w : World) : ∃ cap C fr, (convert 9 29 (.string s)).run Tryd.prog w = .ok (.slice (some ⟨w.heap.size, 0, none⟩) s.size cap) (w.drew.alloc (.cells C 5 fr)) ∧ ∀ j, j < s.size → C[j]? = some (.int .u8 (at8 s.data.toList j)) := by
  refine ⟨_, _, _, run_bytes_of_string w 9 29 5 s Tryd.underlying9 Tryd.underlying29 Tryd.underlying5, fun j hj => ?_⟩
  unfold bytesRow
  have hj' : j < s.data.size := hj
  rw [Array.getElem?_append_left (by simpa using hj')]
  simp only [at8, Array.getElem?_map]
  rw [List.getD_eq_getElem?_getD, Array.getElem?_toList, Array.getElem?_eq_getElem hj']
  rfl
theorem FrW.byt {p : Nat} {g : Option Nat} {w w' : World} (h : FrW p g w w') {a : Option Addr} {l : List UInt8} (hp : ∀ ad, a = some ad → ad.block ≠ p ∧ some ad.block ≠ g) (hb : Byt w a l) : Byt w' a l := by
  rcases hb with rfl | ⟨b, off, rfl, hc⟩
  · exact .inl rfl
  · refine .inr ⟨b, off, rfl, fun j hj => ?_⟩
    have hcj := hc j hj
    have hlt := block_lt_of_cell hcj
    obtain ⟨h1, h2⟩ := hp _ rfl
    have e : w'.cell? ⟨b, off + j, none⟩ = w.cell? ⟨b, off + j, none⟩ := by
      unfold World.cell?
      rw [h.block b hlt h1 h2]
    rw [e, hcj]
variable {p : Nat} {g : Option Nat} {M : List UInt8} {e : Int}
theorem sep_nw {a : Option Addr} {w w' : World} {l : List UInt8} {p : Nat} {g g1 : Option Nat} (hp : ∀ ad, a = some ad → ad.block ≠ p ∧ some ad.block ≠ g) (hlt : ∀ ad, a = some ad → ad.block < w.heap.size) (nw : Nw g g1 w.heap.size) : ∀ ad, a = some ad → ad.block ≠ p ∧ some ad.block ≠ g1 := fun ad e => ⟨(hp ad e).1, by
  rcases nw with h | ⟨k, h, hk⟩
  · rw [h]; exact (hp ad e).2
  · rw [h]; intro h2; have := hlt ad e; cases h2; omega⟩
set_option maxRecDepth 100000 in
set_option maxHeartbeats 1000000 in
theorem wraw_any (B : List UInt8) (a : Option Addr) (len cap : Nat) (w : World) (hw : WS w 50 p g M e) (hlen : B.length = len) (hb : Byt w a B) (hp : ∀ ad, a = some ad → ad.block ≠ p ∧ some ad.block ≠ g) (hlt : ∀ ad, a = some ad → ad.block < w.heap.size) (hsum : M.length + 64 + B.length ≤ 140737488355328) :
    Calls Tryd.prog 32 #[.pointer (some ⟨p, 0, none⟩), .slice a len cap] w fun x w' => x = .returned (.tuple #[]) ∧ Wr w w' 50 p g (wA M e (vint len ++ B)) e := by
  have h10 := vint_10 len (by omega)
  have H1 := Hid.mk' (wuint_any len (by omega) w hw (by omega))
  have H2 : Hid (∀ wx, Wr w wx 50 p g (wA M e (vint len)) e → Calls Tryd.prog 54 #[.pointer (some ⟨p, 0, none⟩), .slice a len cap] wx fun x w' => x = .returned (.tuple #[]) ∧ Wr w w' 50 p g (wA M e (vint len ++ B)) e) := fun wx hx => by
    obtain ⟨g1, ws, fr, nw⟩ := hx
    refine (add_any B a len cap wx ws hlen (fr.byt hp hb) (by have := wA_len M e (vint len); omega)).mono fun x w' h => ?_
    rw [wA_wA] at h
    exact ⟨h.1, Wr.step fr nw h.2⟩
  have hl2 : (len : Int) < 18446744073709551616 := by omega
  clear hw hb hp hlt
  go_enter Tryd.func32, Tryd.ntmps32
  go_wp2_with fail
  refine H1.out.mono ?_
  rintro x w1 ⟨rfl, a1⟩
  have A1 := Hid.mk' a1
  clear a1
  go_wp2_with fail
  refine (H2.out _ A1.out).mono ?_
  rintro x w2 ⟨rfl, a2⟩
  have A2 := Hid.mk' a2
  clear a2
  go_wp2
  go_end0
  exact ⟨rfl, A2.out⟩
end Go.Proofs.YtbpmpcmmdiaiiaaDoor.K

namespace Go.Proofs.YtbpmpcmmdiaiiaaDoor.K
open Go.RowKit
set_option linter.unusedVariables false
set_option linter.unusedSimpArgs false

def rByte (L : List UInt8) (s : St) : Int × St := if s.bad = 0 then (if s.k + 1 ≤ L.length then (at8 L s.k, ⟨s.k + 1, s.bad, s.wh⟩) else (0, ⟨s.k, 20, L.length⟩)) else (0, s)
def rBool (L : List UInt8) (s : St) : Bool × St := if s.bad = 0 then (if s.k + 1 ≤ L.length then (if at8 L s.k ≤ 1 then (decide (at8 L s.k = 1), ⟨s.k + 1, s.bad, s.wh⟩) else (false, ⟨s.k, 21, s.k⟩)) else (false, ⟨s.k, 20, L.length⟩)) else (false, s)
def rUint (L : List UInt8) (most : Nat) (s : St) : Nat × St :=
  if s.bad = 0 then (if (num L s.k).why = 0 then (if (num L s.k).v ≤ most then ((num L s.k).v, ⟨s.k + (num L s.k).size, s.bad, s.wh⟩) else (0, ⟨s.k, 2, s.k⟩)) else (0, ⟨s.k, (num L s.k).why, (num L s.k).place⟩)) else (0, s)
def unzig (n : Nat) : Int := if n % 2 = 1 then -((n / 2 : Nat) : Int) - 1 else ((n / 2 : Nat) : Int)
def rInt (L : List UInt8) (s : St) : Int × St := (unzig (rUint L 18446744073709551615 s).1, (rUint L 18446744073709551615 s).2)

variable {T : TypeId} {r cap : Nat} {a : Option Addr} {L : List UInt8} {s : St}

theorem keep_on (w : World) (hb : s.bad = 0) (e p : Int) (he : e ≠ 0) (wx : World) (h : On w wx T r a cap L s) : Calls Tryd.prog 60 #[.pointer (some ⟨r, 0, none⟩), .int .i64 e, .int .i64 p] wx fun x w' => x = .returned (.bool false) ∧ On w w' T r a cap L ⟨s.k, e, p⟩ := (keep_any e p wx h.1).mono fun x w' hx => by
  rw [St.fl_new s _ _ hb he] at hx
  exact ⟨by rw [hx.1]; simp [he], h.trans hx.2⟩
set_option maxRecDepth 100000 in
set_option maxHeartbeats 1000000 in
theorem byte_any (w : World) (h : RD w T r a cap L s) :
    Calls Tryd.prog 42 #[.pointer (some ⟨r, 0, none⟩)] w fun e w' => e = .returned (.int .u8 (rByte L s).1) ∧ On w w' T r a cap L (rByte L s).2 := by
  have HS : Hid (Calls Tryd.prog 58 #[.pointer (some ⟨r, 0, none⟩)] w fun e w' => e = .returned (.bool (decide (s.bad ≠ 0))) ∧ w' = w) := stopped_any w h
  by_cases hb : s.bad = 0
  · have HS' : Hid (Calls Tryd.prog 58 #[.pointer (some ⟨r, 0, none⟩)] w fun e w' => e = .returned (.bool false) ∧ w' = w) := by have := HS.out; rw [show decide (s.bad ≠ 0) = false by simp [hb]] at this; exact this
    clear HS
    by_cases hk : s.k + 1 ≤ L.length
    · have e0 : rByte L s = (at8 L s.k, ⟨s.k + 1, s.bad, s.wh⟩) := by unfold rByte; rw [if_pos hb, if_pos hk]
      rw [e0]
      clear e0
      have HNx : Hid (Calls Tryd.prog 63 #[.pointer (some ⟨r, 0, none⟩), .int .i64 1] w fun e w' => e = .returned (.tuple #[.slice (from23 a cap s.k) 1 (cap - s.k), .bool true]) ∧ ∃ m, w' = w.drewN m) := next_ok 1 w h hk
      have HO : Hid (∀ m, On w ((w.drewN m).setCell ⟨r, 1, none⟩ (.int .i64 ((s.k : Int) + 1))) T r a cap L ⟨s.k + 1, s.bad, s.wh⟩) := fun m => (h.on.drew m).set1 (s.k + 1) _ (by omega) hk
      have c1 := h.c1
      have f1 := h.fz 1
      have hf := h.few
      rcases h.cells with hz | ⟨b, off, eA, hlt, hbr, hc⟩
      · omega
      have cb : ∀ m v, ((w.drewN m).setCell ⟨r, 1, none⟩ v).cell? ⟨b, off, none⟩ = some (.int .u8 (at8 L s.k)) := fun m v => by
        rw [World.cell?_setCell_other _ _ _ _ (by simp [hbr])]
        exact hc 0 (by omega)
      rw [eA] at HNx
      clear h hc eA
      generalize cap - s.k = c4 at *
      generalize at8 L s.k = bv at *
      go_enter Tryd.func42, Tryd.ntmps42
      go_wp2_with fail
      refine HS'.out.mono ?_
      rintro e w1 ⟨rfl, hw1⟩
      subst hw1
      go_wp2_with fail
      refine HNx.out.mono ?_
      rintro e w2 ⟨rfl, m, rfl⟩
      go_wp2
      go_ret
      exact ⟨rfl, HO.out m⟩
    · have e0 : rByte L s = (0, ⟨s.k, 20, L.length⟩) := by unfold rByte; rw [if_pos hb, if_neg hk]
      rw [e0]
      clear e0
      have HNx : Hid (Calls Tryd.prog 63 #[.pointer (some ⟨r, 0, none⟩), .int .i64 1] w fun e w' => e = .returned (.tuple #[.slice none 0 0, .bool false]) ∧ On w w' T r a cap L ⟨s.k, 20, L.length⟩) := next_no 1 w h hb hk (by decide)
      clear h
      go_enter Tryd.func42, Tryd.ntmps42
      go_wp2_with fail
      refine HS'.out.mono ?_
      rintro e w1 ⟨rfl, hw1⟩
      subst hw1
      go_wp2_with fail
      refine HNx.out.mono ?_
      rintro e w2 ⟨rfl, ho⟩
      have HO := Hid.mk' ho
      clear ho
      go_wp2
      go_ret
      exact ⟨rfl, HO.out⟩
  · have HS' : Hid (Calls Tryd.prog 58 #[.pointer (some ⟨r, 0, none⟩)] w fun e w' => e = .returned (.bool true) ∧ w' = w) := by have := HS.out; rw [show decide (s.bad ≠ 0) = true by simp [hb]] at this; exact this
    have e0 : rByte L s = (0, s) := by unfold rByte; rw [if_neg hb]
    rw [e0]
    have HO := Hid.mk' h.on
    clear HS h e0
    go_enter Tryd.func42, Tryd.ntmps42
    go_wp2_with fail
    refine HS'.out.mono ?_
    rintro e w1 ⟨rfl, hw1⟩
    subst hw1
    go_wp2
    go_ret
    exact ⟨rfl, HO.out⟩

set_option maxRecDepth 100000 in
set_option maxHeartbeats 1000000 in
theorem bool_any (w : World) (h : RD w T r a cap L s) :
    Calls Tryd.prog 43 #[.pointer (some ⟨r, 0, none⟩)] w fun e w' => e = .returned (.bool (rBool L s).1) ∧ On w w' T r a cap L (rBool L s).2 := by
  have HS : Hid (Calls Tryd.prog 58 #[.pointer (some ⟨r, 0, none⟩)] w fun e w' => e = .returned (.bool (decide (s.bad ≠ 0))) ∧ w' = w) := stopped_any w h
  by_cases hb : s.bad = 0
  · have HS' : Hid (Calls Tryd.prog 58 #[.pointer (some ⟨r, 0, none⟩)] w fun e w' => e = .returned (.bool false) ∧ w' = w) := by have := HS.out; rw [show decide (s.bad ≠ 0) = false by simp [hb]] at this; exact this
    clear HS
    by_cases hk : s.k + 1 ≤ L.length
    · have HNx : Hid (Calls Tryd.prog 63 #[.pointer (some ⟨r, 0, none⟩), .int .i64 1] w fun e w' => e = .returned (.tuple #[.slice (from23 a cap s.k) 1 (cap - s.k), .bool true]) ∧ ∃ m, w' = w.drewN m) := next_ok 1 w h hk
      have HO : Hid (∀ m, On w ((w.drewN m).setCell ⟨r, 1, none⟩ (.int .i64 ((s.k : Int) + 1))) T r a cap L ⟨s.k + 1, s.bad, s.wh⟩) := fun m => (h.on.drew m).set1 (s.k + 1) _ (by omega) hk
      have HK := Hid.mk' (keep_on (a := a) (cap := cap) (L := L) (T := T) (r := r) w hb 21 (s.k : Int) (by decide))
      have HR := Hid.mk' h.on
      have c1 := h.c1
      have f1 := h.fz 1
      have hf := h.few
      rcases h.cells with hz | ⟨b, off, eA, hlt, hbr, hc⟩
      · omega
      have c0 : w.cell? ⟨b, off, none⟩ = some (.int .u8 (at8 L s.k)) := hc 0 (by omega)
      have cb : ∀ m v, ((w.drewN m).setCell ⟨r, 1, none⟩ v).cell? ⟨b, off, none⟩ = some (.int .u8 (at8 L s.k)) := fun m v => by
        rw [World.cell?_setCell_other _ _ _ _ (by simp [hbr])]
        exact hc 0 (by omega)
      rw [eA] at HNx
      have hE : rBool L s = if at8 L s.k ≤ 1 then (decide (at8 L s.k = 1), ⟨s.k + 1, s.bad, s.wh⟩) else (false, ⟨s.k, 21, s.k⟩) := by unfold rBool; rw [if_pos hb, if_pos hk]
      rw [hE]
      clear h hc eA hE
      generalize cap - s.k = c4 at *
      generalize at8 L s.k = bv at *
      by_cases hv : bv ≤ 1
      · rw [if_pos hv]
        have hv' : ¬ 1 < bv := by omega
        go_enter Tryd.func43, Tryd.ntmps43
        go_wp2_with fail
        refine HS'.out.mono ?_
        rintro e w1 ⟨rfl, hw1⟩
        subst hw1
        go_wp2_with fail
        refine HNx.out.mono ?_
        rintro e w2 ⟨rfl, m, rfl⟩
        go_wp2
        go_ret
        exact ⟨ret_bool (by by_cases h1 : bv = 1 <;> simp [h1]), HO.out m⟩
      · rw [if_neg hv]
        have hv' : 1 < bv := by omega
        go_enter Tryd.func43, Tryd.ntmps43
        go_wp2_with fail
        refine HS'.out.mono ?_
        rintro e w1 ⟨rfl, hw1⟩
        subst hw1
        go_wp2_with fail
        refine HNx.out.mono ?_
        rintro e w2 ⟨rfl, m, hw2⟩
        have ON : On w1 w2 T r a cap L s := by rw [hw2]; exact HR.out.drew m
        have c1' := ON.1.c1
        have c0' := ON.2.cell (p := ⟨b, off, none⟩) hbr c0
        have HON := Hid.mk' ON
        clear hw2 ON
        go_wp2
        go_region_held3 (fun w' => w'.cell? ⟨r, 1, none⟩ = some (.int .i64 (s.k : Int))) (first | assumption | go_keep) (first
          | (go_at_call 60; refine (HK.out _ ?_).mono ?_; (first | exact HON.out | exact HON.out.drew _ | exact (HON.out.drew _).drew 1); rintro e w3 ⟨rfl, ho⟩; have s1 := ho.1.c1; have HO2 := Hid.mk' ho; clear ho)
          | fail)
        go_wp2
        go_ret
        exact ⟨rfl, HO2.out⟩
    · have e0 : rBool L s = (false, ⟨s.k, 20, L.length⟩) := by unfold rBool; rw [if_pos hb, if_neg hk]
      rw [e0]
      clear e0
      have HNx : Hid (Calls Tryd.prog 63 #[.pointer (some ⟨r, 0, none⟩), .int .i64 1] w fun e w' => e = .returned (.tuple #[.slice none 0 0, .bool false]) ∧ On w w' T r a cap L ⟨s.k, 20, L.length⟩) := next_no 1 w h hb hk (by decide)
      clear h
      go_enter Tryd.func43, Tryd.ntmps43
      go_wp2_with fail
      refine HS'.out.mono ?_
      rintro e w1 ⟨rfl, hw1⟩
      subst hw1
      go_wp2_with fail
      refine HNx.out.mono ?_
      rintro e w2 ⟨rfl, ho⟩
      have HO := Hid.mk' ho
      clear ho
      go_wp2
      go_ret
      exact ⟨rfl, HO.out⟩
  · have HS' : Hid (Calls Tryd.prog 58 #[.pointer (some ⟨r, 0, none⟩)] w fun e w' => e = .returned (.bool true) ∧ w' = w) := by have := HS.out; rw [show decide (s.bad ≠ 0) = true by simp [hb]] at this; exact this
    have e0 : rBool L s = (false, s) := by unfold rBool; rw [if_neg hb]
    rw [e0]
    have HO := Hid.mk' h.on
    clear HS h e0
    go_enter Tryd.func43, Tryd.ntmps43
    go_wp2_with fail
    refine HS'.out.mono ?_
    rintro e w1 ⟨rfl, hw1⟩
    subst hw1
    go_wp2
    go_ret
    exact ⟨rfl, HO.out⟩

set_option maxRecDepth 100000 in
set_option maxHeartbeats 1000000 in
theorem uint_any (most : Nat) (hm : most < 18446744073709551616) (w : World) (h : RD w T r a cap L s) :
    Calls Tryd.prog 24 #[.pointer (some ⟨r, 0, none⟩), .int .u64 (most : Int)] w fun e w' => e = .returned (.int .u64 ((rUint L most s).1 : Int)) ∧ On w w' T r a cap L (rUint L most s).2 := by
  have HS : Hid (Calls Tryd.prog 58 #[.pointer (some ⟨r, 0, none⟩)] w fun e w' => e = .returned (.bool (decide (s.bad ≠ 0))) ∧ w' = w) := stopped_any w h
  by_cases hb : s.bad = 0
  · have HS' : Hid (Calls Tryd.prog 58 #[.pointer (some ⟨r, 0, none⟩)] w fun e w' => e = .returned (.bool false) ∧ w' = w) := by have := HS.out; rw [show decide (s.bad ≠ 0) = false by simp [hb]] at this; exact this
    clear HS
    have HU : rUint L most s = (if (num L s.k).why = 0 then (if (num L s.k).v ≤ most then ((num L s.k).v, ⟨s.k + (num L s.k).size, s.bad, s.wh⟩) else (0, ⟨s.k, 2, s.k⟩)) else (0, ⟨s.k, (num L s.k).why, (num L s.k).place⟩)) := by unfold rUint; rw [if_pos hb]
    rw [HU]
    clear HU
    have HN := Hid.mk' (number_any w h hb)
    have hok := num_ok L s.k h.at_le
    generalize num L s.k = N at *
    obtain ⟨v, sz, why, pl⟩ := N
    simp only at HN hok ⊢
    by_cases hy : why = 0
    · subst hy
      rw [if_pos rfl]
      have HN' : Hid (Calls Tryd.prog 59 #[.pointer (some ⟨r, 0, none⟩)] w fun e w' => e = .returned (.tuple #[.int .u64 (v : Int), .int .i64 (sz : Int), .bool true]) ∧ On w w' T r a cap L s) := HN.out.mono fun e w' hx => by
        rw [St.fl_ok] at hx
        exact hx
      obtain ⟨hs0, hs1, hv64⟩ := hok.1 rfl
      have hf := h.few
      clear HN h
      by_cases hv : v ≤ most
      · rw [if_pos hv]
        have hv' : ¬ (most : Int) < (v : Int) := by omega
        go_enter Tryd.func24, Tryd.ntmps24
        go_wp2_with fail
        refine HS'.out.mono ?_
        rintro e w1 ⟨rfl, hw1⟩
        subst hw1
        go_wp2_with fail
        refine HN'.out.mono ?_
        rintro e w2 ⟨rfl, ho⟩
        have c1 := ho.1.c1
        have f1 := ho.1.fz 1
        have HO := Hid.mk' (ho.set1 (s.k + sz) ((s.k : Int) + (sz : Int)) (by omega) hs1)
        clear ho
        go_wp2
        go_ret
        exact ⟨rfl, HO.out⟩
      · rw [if_neg hv]
        have hv' : (most : Int) < (v : Int) := by omega
        go_enter Tryd.func24, Tryd.ntmps24
        go_wp2_with fail
        refine HS'.out.mono ?_
        rintro e w1 ⟨rfl, hw1⟩
        subst hw1
        go_wp2_with fail
        refine HN'.out.mono ?_
        rintro e w2 ⟨rfl, ho⟩
        have c1 := ho.1.c1
        have HK := Hid.mk' (keep_on (a := a) (cap := cap) (L := L) (T := T) (r := r) w1 hb 2 (s.k : Int) (by decide))
        have HON := Hid.mk' ho
        clear ho
        go_wp2
        go_region_held3 (fun w' => w'.cell? ⟨r, 1, none⟩ = some (.int .i64 (s.k : Int))) (first | assumption | go_keep) (first
          | (go_at_call 60; refine (HK.out _ ?_).mono ?_; (first | exact HON.out | exact HON.out.drew _ | exact (HON.out.drew _).drew 1); rintro e w3 ⟨rfl, ho⟩; have s1 := ho.1.c1; have HO := Hid.mk' ho; clear ho)
          | fail)
        go_wp2
        go_ret
        exact ⟨rfl, HO.out⟩
    · rw [if_neg hy]
      have HN' : Hid (Calls Tryd.prog 59 #[.pointer (some ⟨r, 0, none⟩)] w fun e w' => e = .returned (.tuple #[.int .u64 (v : Int), .int .i64 (sz : Int), .bool false]) ∧ On w w' T r a cap L ⟨s.k, why, pl⟩) := HN.out.mono fun e w' hx => by
        rw [St.fl_new s _ _ hb hy] at hx
        rw [show decide (why = 0) = false by simp [hy]] at hx
        exact hx
      clear HN h
      go_enter Tryd.func24, Tryd.ntmps24
      go_wp2_with fail
      refine HS'.out.mono ?_
      rintro e w1 ⟨rfl, hw1⟩
      subst hw1
      go_wp2_with fail
      refine HN'.out.mono ?_
      rintro e w2 ⟨rfl, ho⟩
      have HO := Hid.mk' ho
      clear ho
      go_wp2
      go_ret
      exact ⟨rfl, HO.out⟩
  · have HS' : Hid (Calls Tryd.prog 58 #[.pointer (some ⟨r, 0, none⟩)] w fun e w' => e = .returned (.bool true) ∧ w' = w) := by have := HS.out; rw [show decide (s.bad ≠ 0) = true by simp [hb]] at this; exact this
    have e0 : rUint L most s = (0, s) := by unfold rUint; rw [if_neg hb]
    rw [e0]
    have HO := Hid.mk' h.on
    clear HS h e0
    go_enter Tryd.func24, Tryd.ntmps24
    go_wp2_with fail
    refine HS'.out.mono ?_
    rintro e w1 ⟨rfl, hw1⟩
    subst hw1
    go_wp2
    go_ret
    exact ⟨rfl, HO.out⟩
theorem rUint_lt (L : List UInt8) (most : Nat) (s : St) (hk : s.k ≤ L.length) : (rUint L most s).1 < 18446744073709551616 := by
  unfold rUint
  have := num_ok L s.k hk
  repeat' split
  all_goals first | (simp only; omega) | (have := this.1 (by assumption); simp only; omega)
end Go.Proofs.YtbpmpcmmdiaiiaaDoor.K

namespace Go.Proofs.YtbpmpcmmdiaiiaaDoor.K

theorem cmp_congr {a b c d : Int} (h1 : a < b ↔ c < d) (h2 : a = b ↔ c = d) : compare a b = compare c d := by
  simp only [compare, compareOfLessAndEq, h1, h2]

/-- The magnitude of a rung, in units of the least place. -/
def fval (r : Nat) : Nat := if r < 2 ^ 52 then r else (2 ^ 52 + r % 2 ^ 52) * 2 ^ (r / 2 ^ 52 - 1)
theorem fval_step (r : Nat) : fval r < fval (r + 1) := by
  unfold fval
  by_cases h : r + 1 < 2 ^ 52
  · rw [if_pos (by omega), if_pos h]; omega
  · by_cases h2 : r < 2 ^ 52
    · rw [if_pos h2, if_neg h]
      have e : r + 1 = 2 ^ 52 := by omega
      rw [e]
      have e2 : (2 ^ 52 + 2 ^ 52 % 2 ^ 52) * 2 ^ (2 ^ 52 / 2 ^ 52 - 1) = 2 ^ 52 := by decide
      rw [e2]
      omega
    · rw [if_neg h2, if_neg h]
      by_cases h3 : r % 2 ^ 52 + 1 < 2 ^ 52
      · have e1 : (r + 1) % 2 ^ 52 = r % 2 ^ 52 + 1 := by omega
        have e2 : (r + 1) / 2 ^ 52 = r / 2 ^ 52 := by omega
        rw [e1, e2]
        exact Nat.mul_lt_mul_of_pos_right (by omega) (Nat.two_pow_pos _)
      · have e1 : (r + 1) % 2 ^ 52 = 0 := by omega
        have e2 : (r + 1) / 2 ^ 52 - 1 = (r / 2 ^ 52 - 1) + 1 := by omega
        rw [e1, e2]
        generalize r / 2 ^ 52 - 1 = k
        rw [Nat.pow_succ 2 k, Nat.mul_comm (2 ^ k) 2, ← Nat.mul_assoc]
        exact Nat.mul_lt_mul_of_pos_right (by omega) (Nat.two_pow_pos _)
theorem fval_lt {r s : Nat} (h : r < s) : fval r < fval s := by
  induction s with
  | zero => omega
  | succ s ih =>
    rcases Nat.lt_or_ge r s with h1 | h1
    · exact Nat.lt_trans (ih h1) (fval_step s)
    · have : r = s := by omega
      subst this
      exact fval_step r
theorem fval_lt_iff (r s : Nat) : fval r < fval s ↔ r < s := by
  constructor
  · intro h
    rcases Nat.lt_or_ge r s with h1 | h1
    · exact h1
    · rcases Nat.eq_or_lt_of_le h1 with h2 | h2
      · subst h2; omega
      · have := fval_lt h2; omega
  · exact fval_lt
theorem fval_inj (r s : Nat) : fval r = fval s ↔ r = s := by
  have := fval_lt_iff r s
  have := fval_lt_iff s r
  omega
theorem fval_zero : fval 0 = 0 := rfl

/-- A float's place among all finite ones. -/
def fkey (x : Nat) : Int := if x / 2 ^ 63 % 2 = 1 then -((x % 2 ^ 63 : Nat) : Int) else ((x % 2 ^ 63 : Nat) : Int)
def ffin (x : Nat) : Prop := x % 2 ^ 63 < 2047 * 2 ^ 52
def fplace (r : Nat) : Nat := if r < 2 ^ 52 then 0 else r / 2 ^ 52 - 1
def fmag (r : Nat) : Nat := if r < 2 ^ 52 then r else 2 ^ 52 + r % 2 ^ 52
theorem fval_eq (r : Nat) : fval r = fmag r * 2 ^ fplace r := by
  unfold fval fmag fplace
  split <;> simp
theorem fread (x : Nat) (h : ffin x) : Ieee.double.read x = .number (x / 2 ^ 63 % 2 == 1) (fmag (x % 2 ^ 63)) (Ieee.double.leastPlace + (fplace (x % 2 ^ 63) : Nat)) := by
  unfold ffin at h
  have e1 : Ieee.double.signWeight = 2 ^ 63 := rfl
  have e2 : Ieee.double.binade = 2 ^ 52 := rfl
  have e3 : Ieee.double.infRung = 2047 * 2 ^ 52 := rfl
  unfold Ieee.Format.read fmag fplace
  rw [e1, e2, e3]
  by_cases h1 : x % 2 ^ 63 < 2 ^ 52
  · simp only [if_pos h1]; simp
  · simp only [if_neg h1, if_pos h]
theorem forder (x y : Nat) (hx : ffin x) (hy : ffin y) : Ieee.double.order x y = some (compare (fkey x) (fkey y)) := by
  unfold Ieee.Format.order
  rw [fread x hx, fread y hy]
  unfold fkey
  generalize x % 2 ^ 63 = r
  generalize y % 2 ^ 63 = s
  simp only [Ieee.Datum.order]
  refine congrArg some ?_
  have hr := fval_eq r
  have hs := fval_eq s
  have key : ∃ c : Nat, 0 < c ∧ fval r = fmag r * 2 ^ (Ieee.double.leastPlace + (fplace r : Int) - min (Ieee.double.leastPlace + (fplace r : Int)) (Ieee.double.leastPlace + (fplace s : Int))).toNat * c ∧ fval s = fmag s * 2 ^ (Ieee.double.leastPlace + (fplace s : Int) - min (Ieee.double.leastPlace + (fplace r : Int)) (Ieee.double.leastPlace + (fplace s : Int))).toNat * c := by
    refine ⟨2 ^ min (fplace r) (fplace s), Nat.two_pow_pos _, ?_, ?_⟩
    · rw [hr, Nat.mul_assoc, ← Nat.pow_add]; congr 2; omega
    · rw [hs, Nat.mul_assoc, ← Nat.pow_add]; congr 2; omega
  obtain ⟨c, hc, k1, k2⟩ := key
  simp only [Ieee.signed, Nat.shiftLeft_eq]
  generalize fmag r * 2 ^ (Ieee.double.leastPlace + (fplace r : Int) - min (Ieee.double.leastPlace + (fplace r : Int)) (Ieee.double.leastPlace + (fplace s : Int))).toNat = A at *
  generalize fmag s * 2 ^ (Ieee.double.leastPlace + (fplace s : Int) - min (Ieee.double.leastPlace + (fplace r : Int)) (Ieee.double.leastPlace + (fplace s : Int))).toNat = B at *
  have a1 : A < B ↔ r < s := by rw [← fval_lt_iff r s, k1, k2]; exact (Nat.mul_lt_mul_right hc).symm
  have a2 : B < A ↔ s < r := by rw [← fval_lt_iff s r, k1, k2]; exact (Nat.mul_lt_mul_right hc).symm
  have a3 : A = 0 ↔ r = 0 := by
    have := fval_inj r 0
    rw [fval_zero, k1] at this
    rw [← this, Nat.mul_eq_zero]
    omega
  have a4 : B = 0 ↔ s = 0 := by
    have := fval_inj s 0
    rw [fval_zero, k2] at this
    rw [← this, Nat.mul_eq_zero]
    omega
  clear k1 k2 hr hs
  by_cases p : x / 2 ^ 63 % 2 = 1 <;> by_cases q : y / 2 ^ 63 % 2 = 1 <;> simp only [p, q, beq_self_eq_true, if_true, if_false, beq_iff_eq] <;> exact cmp_congr (by omega) (by omega)
end Go.Proofs.YtbpmpcmmdiaiiaaDoor.K

namespace Go.Proofs.YtbpmpcmmdiaiiaaDoor.K
open Go.RowKit
set_option linter.unusedVariables false
set_option linter.unusedSimpArgs false

set_option maxRecDepth 100000 in
set_option maxHeartbeats 400000 in
theorem isnan_any (f : Nat) (w : World) :
    Calls Tryd.prog 75 #[.float .f64 f] w fun e w' => e = .returned (.bool (Ieee.double.order f f != some .eq)) ∧ w' = w := by
  go_enter Tryd.func75, Tryd.ntmps75
  go_wp2
  go_ret
  exact ⟨rfl, rfl⟩
set_option maxRecDepth 100000 in
set_option maxHeartbeats 400000 in
theorem abs_any (f r : Nat) (w : World) (hr : bits .andNot .u64 (f : Int) 9223372036854775808 = (r : Int)) :
    Calls Tryd.prog 82 #[.float .f64 f] w fun e w' => e = .returned (.float .f64 r) ∧ w' = w := by
  go_enter Tryd.func82, Tryd.ntmps82
  go_wp2
  go_ret
  exact ⟨rfl, rfl⟩
set_option maxRecDepth 100000 in
set_option maxHeartbeats 400000 in
theorem isinf_any (f r : Nat) (w : World) (hr : bits .andNot .u64 (f : Int) 9223372036854775808 = (r : Int)) :
    Calls Tryd.prog 76 #[.float .f64 f, .int .i64 0] w fun e w' => e = .returned (.bool (Ieee.double.order r 9218868437227405311 == some .gt)) ∧ w' = w := by
  have H := abs_any f r w hr
  clear hr
  go_enter Tryd.func76, Tryd.ntmps76
  go_wp2_with fail
  refine H.mono ?_
  rintro e _ ⟨rfl, rfl⟩
  go_wp2
  go_ret
  exact ⟨rfl, rfl⟩
set_option maxRecDepth 100000 in
set_option maxHeartbeats 400000 in
theorem sign_any (f : Nat) (w : World) (hf : f < 18446744073709551616) :
    Calls Tryd.prog 66 #[.float .f64 f] w fun e w' => e = .returned (.bool (decide (9223372036854775808 ≤ f))) ∧ w' = w := by
  go_enter Tryd.func66, Tryd.ntmps66
  go_wp2
  go_ret
  refine ⟨?_, rfl⟩
  have e : decide (wrap64 (f : Int) < 0) = decide (9223372036854775808 ≤ f) := by
    rw [decide_eq_decide]
    unfold wrap64
    constructor <;> intro h <;> (try split at h) <;> (try split) <;> omega
  rw [← e]
  rfl

theorem abs_bits (f : Nat) (hf : f < 18446744073709551616) : bits .andNot .u64 (f : Int) 9223372036854775808 = ((f % 9223372036854775808 : Nat) : Int) := by
  have h := u64_andNot_nat f 9223372036854775808 hf (by omega)
  rw [show ((9223372036854775808 : Nat) : Int) = 9223372036854775808 from rfl] at h
  rw [h, show (18446744073709551615 - 9223372036854775808 : Nat) = 2 ^ 63 - 1 by decide, Nat.and_two_pow_sub_one_eq_mod]
theorem ford_self (f : Nat) (h : ffin f) : Ieee.double.order f f = some .eq := by
  rw [forder f f h h]
  simp [compare, compareOfLessAndEq]
theorem ford_nan (f : Nat) (h : 9218868437227405312 < f % 9223372036854775808) : Ieee.double.order f f = none := by
  have e1 : Ieee.double.signWeight = 2 ^ 63 := rfl
  have e2 : Ieee.double.binade = 2 ^ 52 := rfl
  have e3 : Ieee.double.infRung = 2047 * 2 ^ 52 := rfl
  unfold Ieee.Format.order Ieee.Format.read
  rw [e1, e2, e3]
  simp only [if_neg (show ¬ f % 2 ^ 63 < 2 ^ 52 by omega), if_neg (show ¬ f % 2 ^ 63 < 2047 * 2 ^ 52 by omega), if_neg (show ¬ f % 2 ^ 63 = 2047 * 2 ^ 52 by omega)]
  rfl
theorem ford_inf (f : Nat) (h : f % 9223372036854775808 = 9218868437227405312) : Ieee.double.order f f = some .eq := by
  have e1 : Ieee.double.signWeight = 2 ^ 63 := rfl
  have e2 : Ieee.double.binade = 2 ^ 52 := rfl
  have e3 : Ieee.double.infRung = 2047 * 2 ^ 52 := rfl
  unfold Ieee.Format.order Ieee.Format.read
  rw [e1, e2, e3]
  simp only [if_neg (show ¬ f % 2 ^ 63 < 2 ^ 52 by omega), if_neg (show ¬ f % 2 ^ 63 < 2047 * 2 ^ 52 by omega), if_pos (show f % 2 ^ 63 = 2047 * 2 ^ 52 by omega)]
  simp [Ieee.Datum.order, compare, compareOfLessAndEq]
theorem ford_max (r : Nat) (h : r < 9218868437227405312) : (Ieee.double.order r 9218868437227405311 == some .gt) = false := by
  rw [forder r _ (by unfold ffin; omega) (by unfold ffin; omega)]
  have e1 : fkey r = (r : Int) := by unfold fkey; rw [if_neg (by omega)]; congr 1; omega
  have e2 : fkey 9218868437227405311 = 9218868437227405311 := by decide
  rw [e1, e2]
  simp only [compare, compareOfLessAndEq]
  split
  · rfl
  · split
    · rfl
    · omega
theorem ford_infmax : (Ieee.double.order 9218868437227405312 9218868437227405311 == some .gt) = true := by decide +kernel
theorem ford_zero (f : Nat) (h : ffin f) (h0 : f % 9223372036854775808 ≠ 0) : (Ieee.double.order f 0 != some .eq) = true := by
  rw [forder f 0 h (by unfold ffin; omega)]
  have e2 : fkey 0 = 0 := by decide
  have e1 : fkey f ≠ 0 := by unfold fkey; split <;> omega
  rw [e2]
  simp only [compare, compareOfLessAndEq]
  split
  · rfl
  · first | rfl | (rw [if_neg e1]; rfl)


/-- Finite. -/
def finN (f : Nat) : Bool := decide (f % 9223372036854775808 < 9218868437227405312)
set_option maxRecDepth 100000 in
set_option maxHeartbeats 1000000 in
theorem fin_any (f : Nat) (w : World) (hf : f < 18446744073709551616) :
    Calls Tryd.prog 56 #[.float .f64 f] w fun e w' => e = .returned (.bool (finN f)) ∧ w' = w := by
  have HN := isnan_any f w
  have HI := isinf_any f (f % 9223372036854775808) w (abs_bits f hf)
  rcases (show 9218868437227405312 < f % 9223372036854775808 ∨ f % 9223372036854775808 = 9218868437227405312 ∨ f % 9223372036854775808 < 9218868437227405312 by omega) with h | h | h
  · rw [ford_nan f h, show (none != some Ordering.eq) = true from rfl] at HN
    have e : finN f = false := by unfold finN; rw [decide_eq_false (by omega)]
    rw [e]
    clear HI hf h e
    go_enter Tryd.func56, Tryd.ntmps56
    go_wp2_with (first | (go_at_call 75; refine HN.mono ?_; rintro e _ ⟨rfl, rfl⟩) | fail)
    go_ret
    exact ⟨rfl, rfl⟩
  · rw [ford_inf f h, show (some Ordering.eq != some Ordering.eq) = false from rfl] at HN
    rw [h, ford_infmax] at HI
    have e : finN f = false := by unfold finN; rw [decide_eq_false (by omega)]
    rw [e]
    clear hf h e
    go_enter Tryd.func56, Tryd.ntmps56
    go_wp2_with (first | (go_at_call 75; refine HN.mono ?_; rintro e _ ⟨rfl, rfl⟩) | (go_at_call 76; refine HI.mono ?_; rintro e _ ⟨rfl, rfl⟩) | fail)
    go_ret
    exact ⟨rfl, rfl⟩
  · have hfin : ffin f := by unfold ffin; omega
    rw [ford_self f hfin, show (some Ordering.eq != some Ordering.eq) = false from rfl] at HN
    rw [ford_max _ h] at HI
    have e : finN f = true := by unfold finN; rw [decide_eq_true h]
    rw [e]
    clear hf h e hfin
    go_enter Tryd.func56, Tryd.ntmps56
    go_wp2_with (first | (go_at_call 75; refine HN.mono ?_; rintro e _ ⟨rfl, rfl⟩) | (go_at_call 76; refine HI.mono ?_; rintro e _ ⟨rfl, rfl⟩) | fail)
    go_ret
    exact ⟨rfl, rfl⟩
end Go.Proofs.YtbpmpcmmdiaiiaaDoor.K

