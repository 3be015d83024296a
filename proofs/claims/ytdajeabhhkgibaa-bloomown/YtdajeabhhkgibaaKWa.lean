import Derived.Test.YtdajeabhhkgibaaKPn
import Derived.Test.YtdajeabhhkgibaaKOb
namespace Go.Proofs.Ytdajeabhhkgibaa.K
open Go.RowKit
set_option linter.unusedVariables false
set_option linter.unusedSimpArgs false

theorem run_app2 (w : World) (base : Nat) (ty : TypeId) (v : Value) (L : List UInt8) (a : Option Addr) (M : List UInt8) (c : Nat) (hown : OwnB w base v L) (hb : Byt w a M)
    (h : L.length + M.length ≤ 140737488355328) (hbase : base ≤ w.heap.size) :
    ∃ v' w', (Builtin.append_ #[53, 53] ty #[v, .slice a M.length c]).run Try.prog w = .ok v' w' ∧ OwnB w' base v' (L ++ M) ∧ w.grownBy w' v.ownBlock ∧ (v'.ownBlock = v.ownBlock ∨ v'.ownBlock = some w.heap.size) := by
  obtain ⟨i, hi, hz, hs, hby⟩ := info5'
  cases a with
  | some ad =>
    have hnews : ∀ j u, (byC M)[j]? = some u → w.cell? (ad.add j) = some u := fun j u hj => by
      obtain ⟨h1, rfl⟩ := byC_get _ j u hj
      rcases hb with rfl | ⟨b, off, e, hc⟩
      · simp at h1
      · cases e
        rw [Addr.add_mid]
        exact hc j h1
    obtain ⟨v', w', hr, h2, h3, _, h5⟩ := run_append_own_at (P := Try.prog) w base 53 ty 5 i (.int .u8 0) 1 1 Try.underlying53 hi hz hs hby rfl (by decide) v L.length (byC L) hown ad M.length c (byC M) (by rw [byC_len]; omega) hnews (byC_one _) (by unfold maxLen; omega) (by omega) hbase
    refine ⟨v', w', hr, ?_, h3, h5⟩
    unfold OwnB
    rw [List.length_append, show byC (L ++ M) = byC L ++ byC M by simp [byC]]
    exact h2
  | none =>
    obtain rfl : M = [] := by
      rcases hb with rfl | ⟨b, off, e, _⟩
      · rfl
      · cases e
    rcases hown.2 with ⟨rfl, hn⟩ | ⟨g, cap, cur, rfl, hbg, hg, hnc, rest⟩
    · refine ⟨.slice none 0 0, w, ?_, by rw [List.append_nil]; exact hown, ⟨rfl, rfl, rfl, Nat.le_refl _, fun _ _ _ => rfl⟩, .inl rfl⟩
      simp [Builtin.append_, run_underlying Try.underlying53, sizeOf, typeInfo, hi, Builtin.lenOf, Builtin.firstCells, loadCells, loadCellsFrom]
    · refine ⟨.slice (some ⟨g, 0, none⟩) L.length cap, w, ?_, by rw [List.append_nil]; exact hown, ⟨rfl, rfl, rfl, Nat.le_refl _, fun _ _ _ => rfl⟩, .inl rfl⟩
      simp [Builtin.append_, run_underlying Try.underlying53, sizeOf, typeInfo, hi, Builtin.lenOf, Builtin.firstCells, hnc, storeCells]
theorem wpList_app2 {ops : Array Oper} {rest : List Oper} {o : Oper} {a : Act} {w : World} {Q : Exit → Act → World → Prop} (hgd : o.guard = none) (s x : Operand)
    (ho : o.op = .call { callee := .builtin .append, args := #[s, x], argTypes := #[53, 53] }) (base : Nat) (v : Value) (L : List UInt8) (hs : a.eval s = v) (hown : OwnB w base v L)
    (aa : Option Addr) (m c : Nat) (M : List UInt8) (hx : a.eval x = .slice aa m c) (hm : M.length = m) (hb : Byt w aa M) (hlen : L.length + M.length ≤ 140737488355328) (hbase : base ≤ w.heap.size)
    (h : ∀ v' w', OwnB w' base v' (L ++ M) → w.grownBy w' v.ownBlock → (v'.ownBlock = v.ownBlock ∨ v'.ownBlock = some w.heap.size) → wpList Try.prog ops Q rest (a.put o.dst v') w') : wpList Try.prog ops Q (o :: rest) a w :=
  wpList_plain hgd fun _ hK => by
    subst hm
    obtain ⟨v', w', hr, h2, h3, h4⟩ := run_app2 w base o.type v L aa M c hown hb hlen hbase
    unfold Oper.wp execOp
    simp only [ho, resolve, invoke, builtin, Sem.run_bind, Sem.run_pure, Result.andThen_ok, List.map_toArray, List.map_cons, List.map_nil, hs, hx, hr]
    exact hK _ _ (h v' w' h2 h3 h4)
theorem own_setCell {w : World} {q base j : Nat} {v u : Value} {L : List UInt8} (h : OwnB w base v L) (hq : v.ownBlock ≠ some q) : OwnB (w.setCell ⟨q, j, none⟩ u) base v L := by
  refine ⟨h.1, ?_⟩
  rcases h.2 with hn | ⟨g, cap, cur, rfl, hbg, hg, rest⟩
  · exact .inl hn
  · refine .inr ⟨g, cap, cur, rfl, hbg, ?_, rest⟩
    rw [Below.heap_setCell _ _ _ _ (fun e => hq (by simp [Value.ownBlock]; exact e))]
    exact hg
/-- A Writer (of either side): its bytes lie in a row of its own, block g. -/
structure WS (w : World) (T : TypeId) (p : Nat) (g : Option Nat) (M : List UInt8) (e : Int) : Prop where
  ex : ∃ v, w.heap[p]? = some (.cells #[v, .int .i64 e] T (0, 0)) ∧ OwnB w 0 v M ∧ v.ownBlock = g
  ne : g ≠ some p
/-- All but the Writer's block and its row is as it was. -/
structure FrW (p : Nat) (g : Option Nat) (w w' : World) : Prop where
  os : w'.os = w.os
  tape : w'.tape = w.tape
  output : w'.output = w.output
  size : w.heap.size ≤ w'.heap.size
  block : ∀ k, k < w.heap.size → k ≠ p → some k ≠ g → w'.heap[k]? = w.heap[k]?
def Nw (g g' : Option Nat) (z : Nat) : Prop := g' = g ∨ ∃ k, g' = some k ∧ z ≤ k
/-- The Writer has gone on. -/
def Wr (w w' : World) (T : TypeId) (p : Nat) (g : Option Nat) (M' : List UInt8) (e' : Int) : Prop := ∃ g', WS w' T p g' M' e' ∧ FrW p g w w' ∧ Nw g g' w.heap.size
theorem WS.lt {w : World} {T : TypeId} {p : Nat} {g : Option Nat} {M : List UInt8} {e : Int} (h : WS w T p g M e) : p < w.heap.size := by
  obtain ⟨v, h1, _⟩ := h.ex
  exact (Array.getElem?_eq_some_iff.1 h1).1
theorem WS.below {w w' : World} {T : TypeId} {p : Nat} {g : Option Nat} {M : List UInt8} {e : Int} (h : WS w T p g M e) (hb : Below w.heap.size w w') : WS w' T p g M e := by
  obtain ⟨v, h1, h2, h3⟩ := h.ex
  exact ⟨⟨v, by rw [hb.block _ (Array.getElem?_eq_some_iff.1 h1).1]; exact h1, h2.below hb, h3⟩, h.ne⟩
theorem FrW.refl (p : Nat) (g : Option Nat) (w : World) : FrW p g w w := ⟨rfl, rfl, rfl, Nat.le_refl _, fun _ _ _ _ => rfl⟩
theorem FrW.of_below {p : Nat} {g : Option Nat} {w w' : World} (h : Below w.heap.size w w') : FrW p g w w' := ⟨h.os, h.tape, h.output, h.size, fun k hk _ _ => h.block k hk⟩
theorem FrW.trans {p : Nat} {g g1 : Option Nat} {a b c : World} (h : FrW p g a b) (k : FrW p g1 b c) (hg : Nw g g1 a.heap.size) : FrW p g a c :=
  ⟨k.os.trans h.os, k.tape.trans h.tape, k.output.trans h.output, Nat.le_trans h.size k.size, fun i hi hp hn => (k.block i (by have := h.size; omega) hp (by
    rcases hg with e | ⟨x, e, hx⟩
    · rw [e]; exact hn
    · rw [e]; intro h2; cases h2; omega)).trans (h.block i hi hp hn)⟩
theorem Nw.trans {g g1 g2 : Option Nat} {z z1 : Nat} (h : Nw g g1 z) (k : Nw g1 g2 z1) (hz : z ≤ z1) : Nw g g2 z := by
  rcases k with e | ⟨x, e, hx⟩
  · rw [e]; exact h
  · exact .inr ⟨x, e, by omega⟩
theorem Wr.step {w w1 w2 : World} {T : TypeId} {p : Nat} {g g1 : Option Nat} {M2 : List UInt8} {e2 : Int} (h1 : FrW p g w w1) (h2 : Nw g g1 w.heap.size) (h : Wr w1 w2 T p g1 M2 e2) : Wr w w2 T p g M2 e2 := by
  obtain ⟨g2, a, b, c⟩ := h
  exact ⟨g2, a, h1.trans b h2, h2.trans c h1.size⟩
theorem WS.wr {w : World} {T : TypeId} {p : Nat} {g : Option Nat} {M : List UInt8} {e : Int} (h : WS w T p g M e) : Wr w w T p g M e := ⟨g, h, FrW.refl _ _ _, .inl rfl⟩
theorem Wr.pre {w w0 w1 : World} {T : TypeId} {p : Nat} {g : Option Nat} {M : List UInt8} {e : Int} (hb : Below w.heap.size w w0) (h : Wr w0 w1 T p g M e) : Wr w w1 T p g M e := Wr.step (FrW.of_below hb) (.inl rfl) h
theorem Wr.post {w w1 w2 : World} {T : TypeId} {p : Nat} {g : Option Nat} {M : List UInt8} {e : Int} (h : Wr w w1 T p g M e) (hb : Below w1.heap.size w1 w2) : Wr w w2 T p g M e := by
  obtain ⟨g1, a, b, c⟩ := h
  exact ⟨g1, a.below hb, b.trans (FrW.of_below (g := g1) hb) c, c⟩
theorem Wr.then {w w1 w2 : World} {T : TypeId} {p : Nat} {g : Option Nat} {M1 M2 : List UInt8} {e1 e2 : Int} (h : Wr w w1 T p g M1 e1) (k : ∀ g1, WS w1 T p g1 M1 e1 → Wr w1 w2 T p g1 M2 e2) : Wr w w2 T p g M2 e2 := by
  obtain ⟨g1, a, b, c⟩ := h
  exact Wr.step b c (k g1 a)
/-- What is written, where there is no error. -/
def wA (M : List UInt8) (e : Int) (B : List UInt8) : List UInt8 := if e = 0 then M ++ B else M
theorem wA_0 (M B : List UInt8) : wA M 0 B = M ++ B := by simp [wA]
theorem wA_no (M B : List UInt8) (e : Int) (h : e ≠ 0) : wA M e B = M := by simp [wA, h]
theorem wA_nil (M : List UInt8) (e : Int) : wA M e [] = M := by unfold wA; split <;> simp
theorem wA_wA (M : List UInt8) (e : Int) (B C : List UInt8) : wA (wA M e B) e C = wA M e (B ++ C) := by
  unfold wA
  split <;> simp
theorem wA_len (M : List UInt8) (e : Int) (B : List UInt8) : (wA M e B).length ≤ M.length + B.length := by
  unfold wA
  split <;> simp
theorem byt_lit (w : World) (l : List UInt8) (t : TypeId) : Byt (w.alloc (.cells (bs l) t)) (some ⟨w.heap.size, 0, none⟩) l :=
  .inr ⟨w.heap.size, 0, rfl, fun j hj => by rw [Nat.zero_add]; exact (cell_of_row _ w.heap.size j _ _ _ (heap_alloc_new _ _)).trans (bs_get _ j hj)⟩
variable {p : Nat} {g : Option Nat} {M : List UInt8} {e : Int}
set_option maxRecDepth 100000 in
set_option maxHeartbeats 2000000 in
theorem add_any (B : List UInt8) (a : Option Addr) (len cap : Nat) (w : World) (hw : WS w 119 p g M e) (hlen : B.length = len) (hb : Byt w a B) (hsum : M.length + B.length ≤ 140737488355328) :
    Calls Try.prog 119 #[.pointer (some ⟨p, 0, none⟩), .slice a len cap] w fun x w' => x = .returned (.tuple #[]) ∧ Wr w w' 119 p g (wA M e B) e := by
  by_cases he : e = 0
  · subst he
    rw [wA_0]
    have hne := hw.ne
    obtain ⟨v, hq, own, hg⟩ := hw.ex
    have zq : p < w.heap.size := (Array.getElem?_eq_some_iff.1 hq).1
    have c0 := (cell_of_row w p 0 _ _ _ hq).trans (show (#[v, .int .i64 0] : Array Value)[0]? = some v from rfl)
    have c1 := (cell_of_row w p 1 _ _ _ hq).trans (show (#[v, .int .i64 0] : Array Value)[1]? = some (.int .i64 0) from rfl)
    obtain ⟨av, cv, rfl, hcv, byv, hav⟩ := own.open
    have HO : Hid (OwnB w 0 (.slice av M.length cv) M) := own
    have HB : Hid (Byt w a B) := hb
    have HS : Hid (M.length + B.length ≤ 140737488355328) := hsum
    have HG := Hid.mk' hg
    clear hg hw
    go_enter Try.func119, Try.ntmps119
    go_wp2_with (first | (at_builtin; refine wpList_app2 rfl (.tmp 17) (.tmp 18) rfl 0 (.slice av M.length cv) M rfl HO.out a len cap B rfl hlen HB.out HS.out (Nat.zero_le _) ?_) | fail)
    intro v' w1 own1 gr1 hblk
    have hq1 : w1.heap[p]? = some (.cells #[.slice av M.length cv, .int .i64 0] 119 (0, 0)) := by rw [gr1.block p zq (fun e => hne (HG.out.symm.trans e.symm))]; exact hq
    have d0 := (cell_of_row w1 p 0 _ _ _ hq1).trans (show (#[.slice av M.length cv, .int .i64 0] : Array Value)[0]? = some (.slice av M.length cv) from rfl)
    have f0 := frozen_of_row w1 p 0 _ _ hq1
    have hblk' : Nw g v'.ownBlock w.heap.size := by
      rcases hblk with e | e
      · exact .inl (e.trans HG.out)
      · exact .inr ⟨_, e, Nat.le_refl _⟩
    have hne1 : v'.ownBlock ≠ some p := by
      rcases hblk' with e | ⟨k, e, hk⟩
      · rw [e]; exact hne
      · rw [e]; intro h; simp at h; omega
    have W1 : Hid (Wr w (w1.setCell ⟨p, 0, none⟩ v') 119 p g (M ++ B) 0) := by
      refine ⟨v'.ownBlock, ⟨⟨v', by rw [heap_setCell_same w1 p 0 _ 119 _ hq1]; rfl, own_setCell own1 hne1, rfl⟩, hne1⟩, ⟨gr1.os, gr1.tape, gr1.output, by simp [World.setCell]; exact gr1.size, fun k hk hp hn => ?_⟩, hblk'⟩
      rw [Below.heap_setCell _ _ _ _ hp, gr1.block k hk (fun e => hn (e.trans HG.out))]
    obtain ⟨av', cv', rfl, _⟩ := own1.open
    rw [List.length_append, hlen] at W1
    clear own1 gr1 hblk hblk' hne1 HO HB HS HG
    go_wp2
    go_end0
    exact ⟨rfl, W1.out⟩
  · rw [wA_no M B e he]
    obtain ⟨v, hq, own, hg⟩ := hw.ex
    have c1 := (cell_of_row w p 1 _ _ _ hq).trans (show (#[v, .int .i64 e] : Array Value)[1]? = some (.int .i64 e) from rfl)
    have HW := Hid.mk' hw.wr
    clear hw own hg hq
    go_enter Try.func119, Try.ntmps119
    go_wp2
    exact bodyPost_ret (results_none Try.results119 _ _ _) rfl ⟨rfl, HW.out⟩
end Go.Proofs.Ytdajeabhhkgibaa.K
