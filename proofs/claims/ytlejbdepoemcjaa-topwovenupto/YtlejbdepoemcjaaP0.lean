import Derived.Test.YtlejbdepoemcjaaSqj
import Derived.RangeFuncFrom
import Derived.Shelf.Abstract
import Derived.Laws.MakeOwn
import Derived.Test.YtlejbdepoemcjaaVt
import Derived.Stop.Joined
import Derived.Lay
import Derived.Deep.DeepHandedRow
import Derived.JoinedCond
import Derived.StillTailTactics
import Derived.Test.YtlejbdepoemcjaaZr
namespace Go.Proofs.Ytlejbdepoemcjaa
open Go.RowKit Go.Shelf Sq
set_option linter.unusedVariables false
set_option linter.unusedSimpArgs false

/-- Some blocks stay. -/
def Kl (l : List Nat) (W W' : World) : Prop := ∀ j ∈ l, W'.heap[j]? = W.heap[j]?
theorem Kl.trans {l : List Nat} {A B C : World} (h : Kl l A B) (k : Kl l B C) : Kl l A C := fun j hj => (k j hj).trans (h j hj)
theorem Kl.put {l : List Nat} {w : World} (hl : ∀ j ∈ l, j < w.heap.size) (W : World) (b : Nat) (o o' : Obj) (hb : w.heap.size ≤ b) (h : W.heap[b]? = some o) (h1 : o.isCells = false) (h2 : o.isWalk = false) : Kl l W (W.putObj b o') := fun j hj => by
  have := hl j hj
  exact World.putObj_heap_other (by omega)
theorem ws_of {w : World} {b1 b2 rb ro : Nat} {c : Bool} (h1 : w.cell? ⟨b1, 0, none⟩ = some (.pointer (some ⟨rb, ro, none⟩))) (h2 : w.cell? ⟨b2, 0, none⟩ = some (.int .i64 (nb c : Int))) : WS b1 b2 rb ro c w := by
  unfold WS
  constructor <;> go_simp
set_option maxRecDepth 100000 in
set_option maxHeartbeats 4000000 in
theorem walk1_stops (n rb ro g cap b1 b2 : Nat) (L : List Sp) (t : T) (c : Bool) (w : World) (hR : SqAt w rb ro g cap L) (hg : Good L t) (h1 : w.cell? ⟨b1, 0, none⟩ = some (.pointer (some ⟨rb, ro, none⟩))) (h2 : w.cell? ⟨b2, 0, none⟩ = some (.int .i64 (nb c : Int))) :
    SeqStopsK Fence.wide n Try.prog 95 #[.pointer (some ⟨b1, 0, none⟩), .pointer (some ⟨b2, 0, none⟩)] (fun x : OkK => #[KpV.v x.1]) (Kl [rb, g]) (fun xs => xs = visK hR.ok c t) (fun _ => True) (vis L c t).length w := by
  intro l J Jx W hW hJ hJx hY h0
  have l1 := block_lt_of_cell h1
  have l2 := block_lt_of_cell h2
  have R0 : SqAt W rb ro g cap L := hR.keep (hW.block _ hR.lt.1) (hW.block _ hR.lt.2)
  have w1 : WS b1 b2 rb ro c W.drew := ws_of ((hW.cell (p := ⟨b1, 0, none⟩) l1).trans h1) ((hW.cell (p := ⟨b2, 0, none⟩) l2).trans h2)
  have hJq : ∀ pre W W', J pre W → Qt W W' → J pre W' := fun pre W W' hj q => hJ pre W W' none hj ⟨q.os, q.tape, q.output, by rw [q.heap]; exact Nat.le_refl _, fun k _ _ => by rw [q.heap]⟩ (fun r e => by cases e)
  have HP := hidMk (pass_any (n := n) (N := (vis L c t).length) (l := l) (c := c) hR.ok J Jx hg.zip.z hg.pos hJq (fun pre x W1 hj hs hl => by
    obtain ⟨fn, tmps, assign, body, hy, hr⟩ := hY pre x W1 hj hl
    refine ⟨fn, tmps, assign, body, hy, hr.mono ?_⟩
    rintro e W' (⟨rfl, a1, a2⟩ | ⟨rfl, a1⟩)
    · exact ⟨true, rfl, .inl ⟨rfl, a1, hs.keep (a2 rb (by simp)) (a2 g (by simp))⟩⟩
    · exact ⟨false, rfl, .inr ⟨rfl, _, a1⟩⟩) t 0 [] W.drew hg.zip.rep hg.cnt R0.drew (hJq _ _ _ h0 (Qt.drew W)) (by simp))
  have HR := hidMk (root_any R0.drew hg)
  refine callsIn_of_wp Try.func95 rfl trivial ?_ rfl
  simp only [Try.ntmps95, List.size_toArray, List.length_cons, List.length_nil, Nat.reduceAdd, Nat.reduceSub, Array.replicate_succ, Array.replicate_zero, List.push_toArray, List.append_toArray, List.nil_append, List.cons_append]
  refine wpIn_wide.2 ?_
  go_upto_region 0 with fail
  refine walk0 (i := t.ix) (c := c) (l := l) (fun b w' => PassP J Jx rb ro g cap L ([] ++ visK hR.ok c t) b w') _ _ _ rfl rfl rfl rfl w1 (HR.out.mono ?_) ?_
  · rintro e w' ⟨rfl, rfl⟩
    exact ⟨rfl, w1, HP.out⟩
  intro b a' W' hP ha
  subst ha
  have HP2 := hidMk hP
  clear hP HP HR
  simp only [Act.put, List.setIfInBounds_toArray, List.set_cons_zero, List.set_cons_succ]
  go_end0
  refine ⟨⟨_, rfl⟩, ?_⟩
  rcases HP2.out with ⟨_, a, _⟩ | ⟨_, p, a⟩
  · exact .inl ⟨_, rfl, a⟩
  · exact .inr ⟨p, trivial, a⟩
end Go.Proofs.Ytlejbdepoemcjaa

namespace Go.Proofs.Ytlejbdepoemcjaa
open Go.RowKit Go.Shelf Sq
set_option linter.unusedVariables false
set_option linter.unusedSimpArgs false
attribute [local go_sem] Oper.semAt_some

theorem zeroEl (w : World) : (zeroValue 90).run Try.prog w = .ok (KpV.v zK) w := by kernel_rfl
/-- An element made and laid down: alloc and store. -/
theorem el_new (w : World) (k : KpV) (hk : KpV.ok k) : ∃ w1, (Instr.alloc 90 true (.tuple #[])).run Try.prog w = .ok (.pointer (some ⟨w.heap.size, 0, none⟩)) w1 ∧ (Instr.storeAt 90 (.pointer (some ⟨w.heap.size, 0, none⟩)) (KpV.v k)).run Try.prog w1 = .ok () (w.alloc (.cells (KpV.c k).toArray 90)) := by
  have e1 : (Instr.alloc 90 true (.tuple #[])).run Try.prog w = .ok (.pointer (some ⟨w.heap.size, 0, none⟩)) (w.alloc (.cells (KpV.c zK).toArray 90)) := by
    simp only [Instr.alloc, newVar, newRow, newObj, Sem.run_bind, zeroEl, Result.andThen_ok, KpV.v, Value.cells]
    rfl
  have e2 := run_storeVar_row (P := Try.prog) (w.alloc (.cells (KpV.c zK).toArray 90)) w.heap.size 90 90 (KpV.c zK).toArray (KpV.c k).toArray (heap_alloc_new _ _) (by rw [List.size_toArray, KpV.len hk]; exact szK)
    (by rw [List.size_toArray, List.size_toArray, KpV.len hk, KpV.len zK_ok]) (by rw [List.all_toArray, List.all_eq_true]; exact KpV.one k)
  rw [World.setRow_alloc_new] at e2
  refine ⟨_, e1, ?_⟩
  simp only [Instr.storeAt, Instr.sureAddr, Sem.run_bind, Sem.run_pure, Result.andThen_ok, KpV.v, e2]
theorem lv_store {w : World} {lb : Nat} {v : Value} (h : w.heap[lb]? = some (.cells #[v] 44 (0, 0))) (a : Option Addr) (n c : Nat) : (Instr.storeAt 44 (.pointer (some ⟨lb, 0, none⟩)) (.slice a n c)).run Try.prog w = .ok () (w.setCell ⟨lb, 0, none⟩ (.slice a n c)) ∧ (w.setCell ⟨lb, 0, none⟩ (.slice a n c)).heap[lb]? = some (.cells #[.slice a n c] 44 (0, 0)) := by
  have hc : w.cell? ⟨lb, 0, none⟩ = some v := (cell_of_row w lb 0 _ _ _ h).trans rfl
  have hf := frozen_of_row w lb 0 _ _ h
  exact ⟨by go_simp, Go.heap_setCell_same _ _ 0 _ _ _ h⟩
/-- A list's variable made and laid down: alloc and store. -/
theorem lv_new (w : World) (a : Option Addr) (n c : Nat) : ∃ w1 w2, (Instr.alloc 44 true (.tuple #[])).run Try.prog w = .ok (.pointer (some ⟨w.heap.size, 0, none⟩)) w1 ∧ (Instr.storeAt 44 (.pointer (some ⟨w.heap.size, 0, none⟩)) (.slice a n c)).run Try.prog w1 = .ok () w2 ∧ Below w.heap.size w w2 ∧ w2.heap[w.heap.size]? = some (.cells #[.slice a n c] 44 (0, 0)) ∧ w2.heap.size = w.heap.size + 1 := by
  have hz : (zeroValue 44).run Try.prog w = .ok (.slice none 0 0) w := by kernel_rfl
  have e1 : (Instr.alloc 44 true (.tuple #[])).run Try.prog w = .ok (.pointer (some ⟨w.heap.size, 0, none⟩)) (w.alloc (.cells #[.slice none 0 0] 44)) := by
    simp only [Instr.alloc, newVar, newRow, newObj, Sem.run_bind, hz, Result.andThen_ok, Value.cells]
    rfl
  obtain ⟨e2, e3⟩ := lv_store (heap_alloc_new w (.cells #[.slice none 0 0] 44)) a n c
  exact ⟨_, _, e1, e2, ((Below.refl _ _).alloc (Nat.le_refl _) _).setCell (p := ⟨w.heap.size, 0, none⟩) (Nat.le_refl _) _, e3, by simp⟩
theorem lv_load {w : World} {lb : Nat} {v : Value} (h : w.heap[lb]? = some (.cells #[v] 44 (0, 0))) : (Instr.loadAt 44 (.pointer (some ⟨lb, 0, none⟩))).run Try.prog w = .ok v w := by
  have hc : w.cell? ⟨lb, 0, none⟩ = some v := (cell_of_row w lb 0 _ _ _ h).trans rfl
  go_simp
theorem el_load {w : World} {b : Nat} {k : KpV} (hk : KpV.ok k) (h : w.heap[b]? = some (.cells (KpV.c k).toArray 90 (0, 0))) : (Instr.loadAt 32 (.pointer (some ⟨b, 0, none⟩))).run Try.prog w = .ok k.id.v w :=
  run_loadAt_mid (P := Try.prog) w b 0 32 k.id.c _ (fun j v hv => cells_range h j v (by rw [KpV.c, List.getElem?_append_left (List.getElem?_eq_some_iff.1 hv).1]; exact hv)) Try.underlying32 rfl (by rw [IdK.len hk.id]; exact szId)
set_option maxRecDepth 100000 in
theorem walk_any (w : World) (rb ro : Nat) (c : Bool) : Calls Try.prog 86 #[.pointer (some ⟨rb, ro, none⟩), .int .i64 (nb c : Int)] w fun e w' => e = .returned (.func (.func 95) #[] #[.pointer (some ⟨w.heap.size, 0, none⟩), .pointer (some ⟨w.heap.size + 1, 0, none⟩)]) ∧ w'.heap.size = w.heap.size + 2 ∧ w'.cell? ⟨w.heap.size, 0, none⟩ = some (.pointer (some ⟨rb, ro, none⟩)) ∧ w'.cell? ⟨w.heap.size + 1, 0, none⟩ = some (.int .i64 (nb c : Int)) ∧ Below w.heap.size w w' := by
  go_enter Try.func86, Try.ntmps86
  go_wp2
  go_ret
  have z : (w.alloc (.cells #[.pointer (some ⟨rb, ro, none⟩)] 114)).heap.size = w.heap.size + 1 := by simp
  refine ⟨rfl, by simp, ?_, ?_, ((Below.refl _ _).alloc (Nat.le_refl _) _).alloc (by simp) _⟩
  · exact (World.cell?_of_block (a := ⟨w.heap.size, 0, none⟩) (Below.heap_alloc _ _ _ (by simp))).trans ((cell_of_row _ _ 0 _ _ _ (heap_alloc_new _ _)).trans rfl)
  · rw [← z]
    exact (cell_of_row _ _ 0 _ _ _ (heap_alloc_new _ _)).trans rfl
/-- What holds between two rounds. -/
structure LI (w wl : World) (lb : Nat) (l : List IdK) (W : World) : Prop where
  v : ∃ v, W.heap[lb]? = some (.cells #[v] 44 (0, 0)) ∧ OwnI W w.heap.size v l ∧ v.ownBlock ≠ some lb
  bel : Below w.heap.size w W
  sz : wl.heap.size ≤ W.heap.size
theorem OwnI.cells {w : World} {base : Nat} {v : Value} {l : List IdK} (h : OwnI w base v l) {k : Nat} (hk : v.ownBlock = some k) : base ≤ k ∧ ∃ c t z, w.heap[k]? = some (.cells c t z) := by
  rcases h.2 with ⟨rfl, _⟩ | ⟨g, cap, cur, rfl, hb, hg, _⟩
  · cases hk
  · simp only [Value.ownBlock, Option.some.injEq] at hk
    subst hk
    exact ⟨hb, cur, _, _, hg⟩
theorem LI.own {α : Type} (w wl : World) (lb : Nat) (f : List α → List IdK) (hw : w.heap.size ≤ wl.heap.size) : OwnFrom wl.heap.size (fun pre W => LI w wl lb (f pre) W) := by
  intro pre W W' row hs hg hr
  obtain ⟨⟨v, a1, a2, a3⟩, b, z⟩ := hs
  have keep : ∀ k c t q, W.heap[k]? = some (Obj.cells c t q) → W'.heap[k]? = W.heap[k]? := fun k c t q hk => hg.block k (Array.getElem?_eq_some_iff.1 hk).1 (fun e => by
    obtain ⟨_, o, ho, hc⟩ := hr k e.symm
    rw [hk] at ho; cases ho; cases hc)
  refine ⟨⟨v, (keep _ _ _ _ a1).trans a1, a2.keep (fun k hk => by obtain ⟨_, c, t, q, e⟩ := a2.cells hk; exact keep _ _ _ _ e), a3⟩, ?_, Nat.le_trans z hg.size⟩
  exact ⟨hg.os.trans b.os, hg.tape.trans b.tape, hg.output.trans b.output, Nat.le_trans b.size hg.size, fun k hk => (hg.block k (Nat.lt_of_lt_of_le hk b.size) (fun e => by have := (hr k e.symm).1; omega)).trans (b.block k hk)⟩
/-- A round: an Id more. -/
theorem LI.step {w wl W : World} {lb : Nat} {l : List IdK} (h : LI w wl lb l W) (hlb : lb < wl.heap.size) (hwl : w.heap.size ≤ lb) {k : IdK} (hk : k.ok) (okl : ∀ x ∈ l, x.ok) (hlen : l.length + 1 ≤ 1400000000000) : ∃ v v' w1 w2 w3, (Instr.loadAt 44 (.pointer (some ⟨lb, 0, none⟩))).run Try.prog W = .ok v W ∧
    (Instr.buildSlice 44 1 #[(0, k.v)]).run Try.prog W = .ok (.slice (some ⟨W.heap.size, 0, none⟩) 1 1) w1 ∧ (Builtin.append_ #[44, 44] 44 #[v, .slice (some ⟨W.heap.size, 0, none⟩) 1 1]).run Try.prog w1 = .ok v' w2 ∧ (Instr.storeAt 44 (.pointer (some ⟨lb, 0, none⟩)) v').run Try.prog w2 = .ok () w3 ∧
    LI w wl lb (l ++ [k]) w3 ∧ KeepsOthers W w3 ∧ Below w.heap.size W w3 := by
  obtain ⟨⟨v, a1, a2, a3⟩, b, z⟩ := h
  have eb := run_bsI k hk W
  have o1 : OwnI (W.alloc (.cells k.c.toArray 32)) w.heap.size v l := a2.below ((Below.refl _ _).alloc (Nat.le_refl _) _)
  obtain ⟨v', w2, ea, o2, g2, ow⟩ := run_appI (W.alloc (.cells k.c.toArray 32)) w.heap.size v l (some ⟨W.heap.size, 0, none⟩) [k] 1 o1 (ids_lit W k 32) (by simp [hk]) (by simp; omega) (by simp; have := b.size; omega)
  have zW : (W.alloc (.cells k.c.toArray 32)).heap.size = W.heap.size + 1 := by simp
  have l1 : (W.alloc (.cells k.c.toArray 32)).heap[lb]? = some (.cells #[v] 44 (0, 0)) := (Below.heap_alloc _ _ _ (by omega)).trans a1
  have l2 : w2.heap[lb]? = some (.cells #[v] 44 (0, 0)) := (g2.block lb (by omega) (fun e => a3 e.symm)).trans l1
  have n2 : v'.ownBlock ≠ some lb := by
    rcases ow with e | e
    · rw [e]; exact a3
    · rw [e, zW]; intro q; simp at q; omega
  obtain ⟨sa, sc, rfl, _, _⟩ := o2.open (fun x hx => by rcases List.mem_append.1 hx with q | q; exact okl x q; simp at q; rw [q]; exact hk)
  obtain ⟨es, l3⟩ := lv_store l2 sa (l ++ [k]).length sc
  have b1 : Below w.heap.size W (W.alloc (.cells k.c.toArray 32)) := ((Below.refl _ _).alloc (Nat.le_refl _) _).mono b.size
  have b2 : Below w.heap.size W w2 := b1.trans ⟨g2.os, g2.tape, g2.output, g2.size, fun j hj => g2.block j (by have := b.size; omega) (fun e => by have := (a2.cells e.symm).1; omega)⟩
  have b3 : Below w.heap.size W (w2.setCell ⟨lb, 0, none⟩ (.slice sa (l ++ [k]).length sc)) := b2.setCell (p := ⟨lb, 0, none⟩) hwl _
  refine ⟨v, _, _, w2, _, lv_load a1, eb, ea, es, ⟨⟨_, l3, o2.keep (fun j hj => ?_), n2⟩, b.trans b3, Nat.le_trans z b3.size⟩, ?_, b3⟩
  · exact Below.heap_setCell _ _ _ _ (fun e => n2 (by rw [hj]; exact congrArg some e))
  · refine ((KeepsOthers.alloc W _).trans (KeepsOthers.of_grownBy g2 (fun j o e ho => ?_))).trans (KeepsOthers.setCell _ _ _)
    obtain ⟨_, c, t, q, e2⟩ := o1.cells e
    rw [ho] at e2
    cases e2
    rfl
end Go.Proofs.Ytlejbdepoemcjaa

namespace Go.Proofs.Ytlejbdepoemcjaa
open Go.RowKit Go.Shelf Sq
set_option linter.unusedVariables false
set_option linter.unusedSimpArgs false
attribute [local go_sem] Oper.semAt_some

theorem make_ids0 (w : World) (base n : Nat) (hn : n ≤ 1400000000000) (hb : base ≤ w.heap.size) : ∃ w', (Instr.makeSlice 44 (.int .i64 0) (.int .i64 (n : Int))).run Try.prog w = .ok (.slice (some ⟨w.heap.size, 0, none⟩) 0 n) w' ∧ OwnI w' base (.slice (some ⟨w.heap.size, 0, none⟩) 0 n) [] ∧ Below w.heap.size w w' ∧ w'.heap.size = w.heap.size + 1 := by
  obtain ⟨i, hi, hz, hs, hby⟩ := info_parts infoI
  obtain ⟨w', e, o, g⟩ := run_make_own (P := Try.prog) w base 44 32 i _ 33 Try.underlying44 hi hz hs .i64 .i64 n (by rw [hby]; omega) (by unfold maxLen; omega) hb
  have hr := run_make (P := Try.prog) w 44 32 i _ Try.underlying44 hi hz .i64 .i64 0 (n : Int) (by omega) (by omega) (by rw [hby]; omega) (by omega)
  have hw := e.symm.trans hr
  simp only [Result.ok.injEq] at hw
  exact ⟨w', e, o, grown_below g, by rw [hw.2]; simp⟩
/-- What the loop's variables hold in a round. -/
def AxL (w : World) (lb : Nat) (x : OkK) (a : Act) (W : World) : Prop := ∃ eb, a.tmps.size = 27 ∧ a.tmps.getD 5 undef = .pointer (some ⟨lb, 0, none⟩) ∧ a.tmps.getD 6 undef = .pointer (some ⟨eb, 0, none⟩) ∧ W.heap[eb]? = some (.cells (KpV.c x.1).toArray 90 (0, 0))
theorem AxL.own (w : World) (lb B : Nat) (x : OkK) (a : Act) : OwnFrom B (fun (_ : Unit) W => AxL w lb x a W) := by
  intro _ W W' row hs hg hr
  obtain ⟨eb, h1, h2, h3, h4⟩ := hs
  refine ⟨eb, h1, h2, h3, (hg.block eb (Array.getElem?_eq_some_iff.1 h4).1 (fun e => ?_)).trans h4⟩
  obtain ⟨_, o, ho, hc⟩ := hr eb e.symm
  rw [h4] at ho; cases ho; cases hc
theorem LI.alloc {w wl W : World} {lb : Nat} {l : List IdK} (h : LI w wl lb l W) (o : Obj) : LI w wl lb l (W.alloc o) := by
  obtain ⟨⟨v, a1, a2, a3⟩, b, z⟩ := h
  exact ⟨⟨v, (Below.heap_alloc _ _ _ (Array.getElem?_eq_some_iff.1 a1).1).trans a1, a2.below ((Below.refl _ _).alloc (Nat.le_refl _) _), a3⟩, b.alloc b.size _, by simp; omega⟩
section
variable {w : World} {s : Sx} {E : List Elt}
theorem visK_ids (h : Lk s E) (ok : OkS s.L) (c : Bool) : (visK ok c s.t).map (fun x => x.1.id) = (visE E c).map (·.id) := by
  unfold visK
  rw [← h.vis c, List.map_map, List.map_map]
  refine List.map_congr_left fun j hj => ?_
  have hjm : j ∈ s.t.ids := (List.mem_filter.1 hj).1
  simp only [Function.comp]
  rw [kpO_val ok (h.good.lt hjm).2]
  rfl
set_option maxRecDepth 100000 in
set_option maxHeartbeats 8000000 in
theorem list_any (h : SeqAt w s E) (c : Bool) : Calls Try.prog 54 #[.pointer (some ⟨s.sb, 0, none⟩), .int .i64 (nb c : Int)] w fun e w' => ∃ v, e = .returned v ∧ OwnI w' w.heap.size v ((visE E c).map (·.id)) ∧ Below w.heap.size w w' := by
  have hcnt := h.lk.cnt c
  have hvl : (visE E c).length ≤ E.length := List.length_filter_le _ _
  have hlen := h.lk.len
  have hll := h.row.len
  have hvK : (vis s.L c s.t).length = (visE E c).length := by rw [← h.lk.vis c, List.length_map]
  have HIDS := hidMk (visK_ids h.lk h.row.ok c)
  obtain ⟨n, hn⟩ : ∃ n, (visE E c).length = n := ⟨_, rfl⟩
  rw [hn] at hcnt hvl hvK
  have HM := hidMk (rmany_any h.row h.lk.good c)
  rw [hcnt] at HM
  obtain ⟨wm, em, om, bm, zm⟩ := make_ids0 w w.heap.size n (by omega) (Nat.le_refl _)
  refine (callsIn_wide (n := 4)).1 ?_
  refine callsIn_of_wp_marks Try.func54 rfl trivial ?_ rfl
  simp only [Try.ntmps54, List.size_toArray, List.length_cons, List.length_nil, Nat.reduceAdd, Nat.reduceSub, Array.replicate_succ, Array.replicate_zero, List.push_toArray, List.append_toArray, List.nil_append, List.cons_append]
  refine wpIn_wide.2 ?_
  have NN := hidMk hn
  have HN1 := hidMk hvK
  have HN2 := hidMk (show n ≤ 1400000000000 by omega)
  clear hn hvK hcnt hvl hlen hll
  go_upto_region 3 with fail
  -- the count, the list, its variable
  have HC3 : Hid (Calls Try.prog 85 #[.pointer (some ⟨s.sb, 1, none⟩), .int .i64 (nb c : Int)] w fun e w' => e = .returned (.int .i64 (n : Int)) ∧ ∃ y1 y2 y3, (Instr.makeSlice 44 (.int .i64 0) (.int .i64 (n : Int))).run Try.prog w' = .ok (.slice (some ⟨w.heap.size, 0, none⟩) 0 n) y1 ∧ (Instr.alloc 44 true (.tuple #[])).run Try.prog y1 = .ok (.pointer (some ⟨w.heap.size + 1, 0, none⟩)) y2 ∧ (Instr.storeAt 44 (.pointer (some ⟨w.heap.size + 1, 0, none⟩)) (.slice (some ⟨w.heap.size, 0, none⟩) 0 n)).run Try.prog y2 = .ok () y3 ∧ LI w y3 (w.heap.size + 1) [] y3 ∧ w.heap.size + 1 < y3.heap.size) := by
    refine HM.out.mono ?_
    rintro e w' ⟨rfl, q⟩
    have zq : w'.heap.size = w.heap.size := by rw [q.heap]
    obtain ⟨y1, e1, o1, b1, z1⟩ := make_ids0 w' w.heap.size n HN2.out (by omega)
    obtain ⟨y2, y3, e2, e3, b3, l3, z3⟩ := lv_new y1 (some ⟨w'.heap.size, 0, none⟩) 0 n
    rw [zq] at z1 e1 o1 e3 l3
    rw [z1] at e2 e3 b3 l3 z3
    have b13 : Below w.heap.size w y3 := ((q.below _).trans (b1.mono (by omega))).trans (b3.mono (by omega))
    refine ⟨rfl, y1, y2, y3, e1, e2, e3, ⟨⟨_, l3, ?_, ?_⟩, b13, Nat.le_refl _⟩, by omega⟩
    · exact o1.keep (fun k hk => b3.block k (by simp only [Value.ownBlock, Option.some.injEq] at hk; omega))
    · simp [Value.ownBlock]
  refine li3 (fun y => LI w y (w.heap.size + 1) [] y ∧ w.heap.size + 1 < y.heap.size) _ _ _ rfl rfl rfl HC3.out ?_
  rintro a' w1 ⟨hL, z1⟩ ha
  subst ha
  clear HC3 HM em om bm zm
  simp only [Act.put, List.setIfInBounds_toArray, List.set_cons_zero, List.set_cons_succ]
  go_upto_region 4 with fail
  refine li4 (v := .func (.func 95) #[] #[.pointer (some ⟨w1.heap.size, 0, none⟩), .pointer (some ⟨w1.heap.size + 1, 0, none⟩)]) (fun w' => w'.heap.size = w1.heap.size + 2 ∧ w'.cell? ⟨w1.heap.size, 0, none⟩ = some (.pointer (some ⟨s.sb, 1, none⟩)) ∧ w'.cell? ⟨w1.heap.size + 1, 0, none⟩ = some (.int .i64 (nb c : Int)) ∧ Below w1.heap.size w1 w') _ _ _ rfl rfl rfl (walk_any w1 s.sb 1 c) ?_
  rintro a' w2 ⟨z2, c1, c2, b2⟩ ha
  subst ha
  simp only [Act.put, List.setIfInBounds_toArray, List.set_cons_zero, List.set_cons_succ]
  have b02 : Below w.heap.size w w2 := hL.bel.trans (b2.mono hL.bel.size)
  have h2 := h.below b02
  have L2 : LI w w2 (w.heap.size + 1) [] w2 := by
    obtain ⟨⟨v, a1, a2, a3⟩, b, z⟩ := hL
    exact ⟨⟨v, (b2.block _ z1).trans a1, a2.below b2, a3⟩, b02, Nat.le_refl _⟩
  have ST := hidMk (walk1_stops (4 - 1) s.sb 1 s.g s.cap w1.heap.size (w1.heap.size + 1) s.L s.t c w2 h2.row h.lk.good c1 c2)
  clear c1 c2
  go_wp2
  refine (wpIn_wide (n := 4)).1 ?_
  refine wpIn_rangeFunc_ownH (F := Fence.wide) rfl (by omega) (gf := 95) (lb := #[.pointer (some ⟨w1.heap.size, 0, none⟩), .pointer (some ⟨w1.heap.size + 1, 0, none⟩)]) rfl trivial (enters_of Try.func95 (by kernel_rfl) rfl)
    ST.out (fun h k => h.trans k) (Kl.put (fun j hj => h2.lt j (by revert hj; simp [Sx.bl]; intro q; rcases q with q | q <;> simp [q]))) (Below.refl _ _) (fun _ => rfl)
    (fun pre W => LI w w2 (w.heap.size + 1) (pre.map (fun x => x.1.id)) W)
    (fun _ _ _ => False)
    (LI.own w w2 (w.heap.size + 1) (fun pre => pre.map (fun x : OkK => x.1.id)) b02.size)
    (fun _ _ _ _ _ hs _ _ => hs)
    L2 (AxL w (w.heap.size + 1)) (AxL.own w (w.heap.size + 1) w2.heap.size) ?assign ?body ?done ?stop
  case assign =>
    intro l pre x W K hI hK
    obtain ⟨y1, e1, e2⟩ := el_new W x.1 x.2
    have hz : (#[20].zip #[KpV.v x.1] : Array (Tmp × Value)) = #[(20, KpV.v x.1)] := by simp
    rw [hz]
    simp only [List.foldl_toArray', List.foldl_cons, List.foldl_nil, List.setIfInBounds_toArray, List.set_cons_succ, List.set_cons_zero]
    refine li5 (v := KpV.v x.1) _ _ _ rfl rfl e1 e2 ?_
    intro a' W' hw ha
    obtain rfl : W' = _ := hw
    refine hK _ _ ((KeepsOthers.alloc W _).from _) (fun j hj => ?_) (hI.alloc _) ⟨W.heap.size, ?_, ?_, ?_, heap_alloc_new _ _⟩
    · have : j < w.heap.size := h.lt j (by revert hj; simp [Sx.bl]; intro q; rcases q with q | q <;> simp [q])
      exact Below.heap_alloc _ _ _ (Nat.lt_of_lt_of_le this hI.bel.size)
    · subst ha; rfl
    · subst ha; rfl
    · subst ha; rfl
  case body =>
    rintro l pre x a' W hl hr hI ⟨eb, t1, t2, t3, hE⟩ hpl
    have hpn : pre.length < n := by rw [HN1.out] at hpl; exact hpl
    obtain ⟨v, v', y1, y2, y3, e0, e1, e2, e3, hI', ko, bl⟩ := hI.step (k := x.1.id) (by omega) (by omega) x.2.id (fun q hq => by obtain ⟨z, _, rfl⟩ := List.mem_map.1 hq; exact z.2.id) (by rw [List.length_map]; have := HN2.out; omega)
    refine wpIn_block ?_
    refine li6 (k := x.1.id) _ _ _ t1 t2 t3 e0 (el_load x.2 hE) e1 e2 e3 ?_
    intro a'' W' hw ha
    obtain rfl : W' = y3 := hw
    refine ⟨ko.from _, fun j hj => ?_, ?_⟩
    · have : j < w.heap.size := h.lt j (by revert hj; simp [Sx.bl]; intro q; rcases q with q | q <;> simp [q])
      exact bl.block j this
    · simp only [List.map_append, List.map_cons, List.map_nil]
      exact hI'
  case done =>
    rintro D ys W hD rfl hI hK
    obtain ⟨⟨v, a1, a2, a3⟩, b, z⟩ := hI
    rw [HIDS.out] at a2
    have LV := hidMk (lv_load a1)
    have kb : ∀ k, k ≠ D → (W.putObj D (.deferred none)).heap[k]? = W.heap[k]? := fun k hk => World.putObj_heap_other hk
    have bD : Below w.heap.size W (W.putObj D (.deferred none)) := (Below.refl _ W).grown (grownBy_putObj' W D (.deferred none)) (Nat.le_trans b02.size z) (fun k e => by cases e; have := b02.size; omega)
    have RES := hidMk (show OwnI (W.putObj D (.deferred none)) w.heap.size v ((visE E c).map (·.id)) from a2.keep (fun k hk => kb k (fun e => by
      obtain ⟨_, cc, t, q, e2⟩ := a2.cells hk
      rw [e, hK] at e2
      cases e2)))
    have RB := hidMk (b.trans bD)
    clear a1 a2 a3
    gi_wp2
    go_upto_region 7 with fail
    refine li7 (u := v) _ _ _ rfl rfl LV.out ?_
    intro a' w3 hw ha
    subst ha
    obtain rfl : w3 = W := hw
    simp only [Act.put, List.setIfInBounds_toArray, List.set_cons_zero, List.set_cons_succ]
    go_wp2
    refine ⟨by simp, .inl ⟨_, _, rfl, run_takeDeferred hK, ?_⟩⟩
    exact ⟨_, results_tmp (t := 4) rfl _ _ _, v, rfl, RES.out, RB.out⟩
  case stop =>
    rintro D c pre W _ _ h _
    exact h.elim
set_option maxRecDepth 100000 in
theorem ids_any (h : SeqAt w s E) : Calls Try.prog 22 #[.pointer (some ⟨s.sb, 0, none⟩)] w fun e w' => ∃ v, e = .returned v ∧ OwnI w' w.heap.size v ((visE E false).map (·.id)) ∧ Below w.heap.size w w' := by
  have HA : Hid (Calls Try.prog 54 #[.pointer (some ⟨s.sb, 0, none⟩), .int .i64 0] w fun e w' => ∃ v, e = .returned v ∧ OwnI w' w.heap.size v ((visE E false).map (·.id)) ∧ Below w.heap.size w w') := list_any h false
  go_enter Try.func22, Try.ntmps22
  go_wp2_with (first
    | (go_at_call 54; refine HA.out.mono ?_; rintro e w' ⟨v, rfl, ho, hb⟩)
    | fail)
  go_ret
  exact ⟨v, rfl, ho, hb⟩
set_option maxRecDepth 100000 in
theorem live_any (h : SeqAt w s E) : Calls Try.prog 29 #[.pointer (some ⟨s.sb, 0, none⟩)] w fun e w' => ∃ v, e = .returned v ∧ OwnI w' w.heap.size v ((visE E true).map (·.id)) ∧ Below w.heap.size w w' := by
  have HA : Hid (Calls Try.prog 54 #[.pointer (some ⟨s.sb, 0, none⟩), .int .i64 1] w fun e w' => ∃ v, e = .returned v ∧ OwnI w' w.heap.size v ((visE E true).map (·.id)) ∧ Below w.heap.size w w') := list_any h true
  go_enter Try.func29, Try.ntmps29
  go_wp2_with (first
    | (go_at_call 54; refine HA.out.mono ?_; rintro e w' ⟨v, rfl, ho, hb⟩)
    | fail)
  go_ret
  exact ⟨v, rfl, ho, hb⟩
theorem nthE_ok (h : SeqOk E) (c : Bool) (m : Int) : (nthE E c m).1.ok := by
  unfold nthE
  split
  · rw [List.getD_eq_getElem?_getD]
    cases q : ((visE E c).map (·.id))[m.toNat]? with
    | none => exact zId_ok
    | some x =>
      obtain ⟨e, he, rfl⟩ := List.mem_map.1 (List.mem_of_getElem? q)
      exact (h.ok e (List.mem_filter.1 he).1).1
  · exact zId_ok
set_option maxRecDepth 100000 in
set_option maxHeartbeats 2000000 in
theorem at_any (h : SeqAt w s E) (m : Int) (hm : -9223372036854775808 ≤ m ∧ m ≤ 9223372036854775807) : Calls Try.prog 23 #[.pointer (some ⟨s.sb, 0, none⟩), .int .i64 m] w fun e w' => e = .returned (.tuple #[(nthE E false m).1.v, .bool (nthE E false m).2]) ∧ Below w.heap.size w w' := by
  have hr := id_new w zId
  have bx : Below w.heap.size w (w.alloc (.cells zId.c.toArray 32)) := (Below.refl _ _).alloc (Nat.le_refl _) _
  have zx : (w.alloc (.cells zId.c.toArray 32)).heap.size = w.heap.size + 1 := by simp
  have HA : Hid (∀ W, SeqAt W s E → Calls Try.prog 55 #[.pointer (some ⟨s.sb, 0, none⟩), .int .i64 m, .int .i64 0] W fun e w' => e = .returned (.tuple #[(nthE E false m).1.v, .bool (nthE E false m).2]) ∧ Below W.heap.size W w') := fun W hW => sfind_any hW false m hm
  have OK : (nthE E false m).1.ok := nthE_ok h.lk.ok false m
  generalize nthE E false m = res at *
  go_enter Try.func23, Try.ntmps23
  go_upto_region 1 with (first
    | (refine wpList_run rfl (exec_alloc (t := 32) rfl (id_zero _)) ?_)
    | fail)
  generalize w.alloc (.cells zId.c.toArray 32) = wx at *
  have h1 := h.below bx
  have HR := hidMk hr
  have BX := hidMk bx
  have ZX := hidMk zx
  clear hr bx zx
  go_wp2_with (first
    | (go_at_call 55; refine (HA.out _ h1).mono ?_; rintro e w1 ⟨rfl, hb⟩; have ST := hidMk (store_id zId_ok OK (HR.out.below hb)))
    | (refine wpList_skip rfl rfl (exec_store (t := 32) (xv := .pointer (some ⟨w.heap.size, 0, none⟩)) (yv := res.1.v) rfl rfl rfl ST.out) ?_)
    | fail)
  refine bodyPost_ret (results_c2 rfl rfl (loadVar_id OK ((HR.out.below hb).set res.1))) rfl ?_
  have b2 := BX.out.trans (hb.mono BX.out.size)
  exact ⟨rfl, b2.trans (set_below _ b2.size (Nat.le_refl _))⟩
set_option maxRecDepth 100000 in
set_option maxHeartbeats 2000000 in
theorem nth_any (h : SeqAt w s E) (m : Int) (hm : -9223372036854775808 ≤ m ∧ m ≤ 9223372036854775807) : Calls Try.prog 26 #[.pointer (some ⟨s.sb, 0, none⟩), .int .i64 m] w fun e w' => e = .returned (.tuple #[(nthE E true m).1.v, .bool (nthE E true m).2]) ∧ Below w.heap.size w w' := by
  have hr := id_new w zId
  have bx : Below w.heap.size w (w.alloc (.cells zId.c.toArray 32)) := (Below.refl _ _).alloc (Nat.le_refl _) _
  have zx : (w.alloc (.cells zId.c.toArray 32)).heap.size = w.heap.size + 1 := by simp
  have HA : Hid (∀ W, SeqAt W s E → Calls Try.prog 55 #[.pointer (some ⟨s.sb, 0, none⟩), .int .i64 m, .int .i64 1] W fun e w' => e = .returned (.tuple #[(nthE E true m).1.v, .bool (nthE E true m).2]) ∧ Below W.heap.size W w') := fun W hW => sfind_any hW true m hm
  have OK : (nthE E true m).1.ok := nthE_ok h.lk.ok true m
  generalize nthE E true m = res at *
  go_enter Try.func26, Try.ntmps26
  go_upto_region 1 with (first
    | (refine wpList_run rfl (exec_alloc (t := 32) rfl (id_zero _)) ?_)
    | fail)
  generalize w.alloc (.cells zId.c.toArray 32) = wx at *
  have h1 := h.below bx
  have HR := hidMk hr
  have BX := hidMk bx
  have ZX := hidMk zx
  clear hr bx zx
  go_wp2_with (first
    | (go_at_call 55; refine (HA.out _ h1).mono ?_; rintro e w1 ⟨rfl, hb⟩; have ST := hidMk (store_id zId_ok OK (HR.out.below hb)))
    | (refine wpList_skip rfl rfl (exec_store (t := 32) (xv := .pointer (some ⟨w.heap.size, 0, none⟩)) (yv := res.1.v) rfl rfl rfl ST.out) ?_)
    | fail)
  refine bodyPost_ret (results_c2 rfl rfl (loadVar_id OK ((HR.out.below hb).set res.1))) rfl ?_
  have b2 := BX.out.trans (hb.mono BX.out.size)
  exact ⟨rfl, b2.trans (set_below _ b2.size (Nat.le_refl _))⟩
end
end Go.Proofs.Ytlejbdepoemcjaa

namespace Go.Proofs.Ytlejbdepoemcjaa
open Go.RowKit Go.Shelf Sq
set_option linter.unusedVariables false
set_option linter.unusedSimpArgs false

theorem good_new : Good [zSp] .nil := by
  refine ⟨⟨trivial, ⟨by simp, rfl, rfl⟩, by simp [T.ids, cids], fun w => by cases w <;> rfl⟩, trivial, fun i h0 h1 => ?_⟩
  simp at h1; omega
theorem zSp_ok : OkS [zSp] := fun x hx => by
  rw [List.mem_singleton.1 hx]; exact zK_ok
theorem lk_new (sb mb g cap : Nat) : Lk ⟨sb, mb, g, cap, [zSp], .nil, []⟩ [] := by
  refine ⟨good_new, rfl, ⟨by simp, by simp, by simp⟩, fun k n => ?_, rfl, fun n hn => ?_⟩
  · constructor
    · intro h; cases h
    · rintro ⟨h, _⟩; simp [T.ids] at h
  · rcases hn with rfl | h
    · rfl
    · simp [T.ids] at h
set_option maxRecDepth 100000 in
theorem make_sp (w : World) : (Instr.makeSlice 85 (.int .i64 1) (.int .i64 1)).run Try.prog w = .ok (.slice (some ⟨w.heap.size, 0, none⟩) 1 1) (w.alloc (.cells (Sp.c zSp).toArray 113)) := by kernel_rfl
theorem results_c1 {P : Program} {fn : Func} {a : Nat} {t : TypeId} (h : fn.results = #[.cell a t]) {tmps : Array Value} {w : World} {p : Addr} {v : Value} (ha : tmps.getD a undef = .pointer (some p)) (hl : (loadVar t p).run P w = .ok v w) :
    (results fn tmps).run P w = .ok v w := by
  rw [Array.getD_eq_getD_getElem?] at ha
  simp [results, h, asAddr, ha, hl, Array.mapM_eq_mapM_toList, Result.andThen]
set_option maxRecDepth 100000 in
theorem newRow_any (w : World) : Calls Try.prog 33 #[] w fun e w' => e = .returned (.agg #[.slice (some ⟨w.heap.size + 1, 0, none⟩) 1 1]) ∧ w'.heap[w.heap.size + 1]? = some (.cells (Sp.c zSp).toArray 113 (0, 0)) ∧ w'.heap.size = w.heap.size + 2 ∧ Below w.heap.size w w' := by
  go_enter Try.func33, Try.ntmps33
  go_wp2_with (first
    | (refine wpList_run rfl (exec_makeSlice rfl rfl rfl (make_sp _)) ?_)
    | fail)
  have z : (w.alloc (.cells #[.slice (some ⟨w.heap.size + 1, 0, none⟩) 1 1] 87)).heap.size = w.heap.size + 1 := by simp
  have hb : ((w.alloc (.cells #[.slice (some ⟨w.heap.size + 1, 0, none⟩) 1 1] 87)).alloc (.cells (Sp.c zSp).toArray 113)).heap[w.heap.size]? = some (.cells [Value.slice (some ⟨w.heap.size + 1, 0, none⟩) 1 1].toArray 87 (0, 0)) := (Below.heap_alloc _ _ _ (by simp)).trans (heap_alloc_new _ _)
  have hl := run_loadVar_mid (P := Try.prog) _ w.heap.size 0 87 [Value.slice (some ⟨w.heap.size + 1, 0, none⟩) 1 1] _ (cells_range hb) Try.underlying87 rfl (by kernel_rfl)
  refine bodyPost_ret (results_c1 rfl rfl hl) rfl ?_
  refine ⟨rfl, ?_, by simp, ((Below.refl _ _).alloc (Nat.le_refl _) _).alloc (by simp) _⟩
  have hn := heap_alloc_new (w.alloc (.cells #[.slice (some ⟨w.heap.size + 1, 0, none⟩) 1 1] 87)) (.cells (Sp.c zSp).toArray 113)
  rw [z] at hn
  exact hn
set_option maxRecDepth 100000 in
theorem new_any (w : World) : Calls Try.prog 7 #[] w fun e w' => ∃ s, e = .returned (.pointer (some ⟨s.sb, 0, none⟩)) ∧ SeqAt w' s [] ∧ (∀ j ∈ s.bl, w.heap.size ≤ j) ∧ Below w.heap.size w w' := by
  have HR : Hid (∀ W, Calls Try.prog 33 #[] W fun e w' => e = .returned (.agg #[.slice (some ⟨W.heap.size + 1, 0, none⟩) 1 1]) ∧ w'.heap[W.heap.size + 1]? = some (.cells (Sp.c zSp).toArray 113 (0, 0)) ∧ w'.heap.size = W.heap.size + 2 ∧ Below W.heap.size W w') := newRow_any
  have hm := M.MapAt.new w IdK.v IdK.ok
  have bm : Below w.heap.size w (w.alloc (.map #[] 0)) := (Below.refl _ _).alloc (Nat.le_refl _) _
  have zm : (w.alloc (.map #[] 0)).heap.size = w.heap.size + 1 := by simp
  go_enter Try.func7, Try.ntmps7
  have MK : Hid (∀ W : World, (Instr.makeMap 84 none).run Try.prog W = .ok (.map (some W.heap.size)) (W.alloc (.map #[] 0))) := fun W => by kernel_rfl
  go_wp2_with (first
    | (refine wpList_run rfl (exec_makeMap rfl (MK.out _)) ?_)
    | (go_at_call 33; generalize w.alloc (.map #[] 0) = wm at *; refine (HR.out _).mono ?_; rintro e w1 ⟨rfl, h1, z1, b1⟩)
    | fail)
  rw [zm] at h1 z1 b1
  have hq := heap_alloc_new w1 (.cells #[.map (some w.heap.size), .slice (some ⟨w.heap.size + 1 + 1, 0, none⟩) 1 1] 92)
  have bq : Below w1.heap.size w1 (w1.alloc (.cells #[.map (some w.heap.size), .slice (some ⟨w.heap.size + 1 + 1, 0, none⟩) 1 1] 92)) := (Below.refl _ _).alloc (Nat.le_refl _) _
  go_ret
  generalize w1.alloc (.cells #[.map (some w.heap.size), .slice (some ⟨w.heap.size + 1 + 1, 0, none⟩) 1 1] 92) = w2 at *
  rw [z1] at hq bq
  have hg : w2.heap[w.heap.size + 1 + 1]? = some (.cells (Sp.c zSp).toArray 113 (0, 0)) := (bq.block _ (by omega)).trans h1
  refine ⟨⟨w.heap.size + 1 + 2, w.heap.size, w.heap.size + 1 + 1, 1, [zSp], .nil, []⟩, rfl, ⟨?_, ⟨?_, ⟨?_, .inr ⟨w.heap.size + 1 + 1, 1, _, rfl, Nat.zero_le _, hg, Nat.le_refl _, by decide, ?_, ?_⟩⟩, ?_, by show w.heap.size + 1 + 2 ≠ w.heap.size + 1 + 1; omega, by show 1 ≤ 1400000000000; omega, _, _, hq⟩, ?_, ⟨by show w.heap.size + 1 + 2 ≠ w.heap.size; omega, by show w.heap.size + 1 + 1 ≠ w.heap.size; omega⟩, lk_new _ _ _ _⟩, ?_, ?_⟩
  · exact (cell_of_row _ _ 0 _ _ _ hq).trans rfl
  · exact (cell_of_row _ _ 1 _ _ _ hq).trans rfl
  · show (flatS [zSp]).length = 1 * 73
    rw [flatS_len zSp_ok]; rfl
  · show (Sp.c zSp).toArray.size = 1 * 73
    rw [List.size_toArray, Sp.len zK_ok]
  · show ((Sp.c zSp).toArray.toList).take (1 * 73) = flatS [zSp]
    rw [List.toList_toArray, List.take_of_length_le (by rw [Sp.len zK_ok]; omega)]
    simp [flatS]
  · exact zSp_ok
  · exact hm.below ((bq.block _ (by show w.heap.size < _; omega)).trans (b1.block _ (by show w.heap.size < _; omega)))
  · intro j hj
    simp only [Sx.bl, List.mem_cons, List.not_mem_nil, or_false] at hj
    rcases hj with rfl | rfl | rfl <;> omega
  · exact (bm.trans (b1.mono (by omega))).trans (bq.mono (by omega))
end Go.Proofs.Ytlejbdepoemcjaa

namespace Go.Proofs.Ytlejbdepoemcjaa
open Go.RowKit Sq
set_option linter.unusedVariables false
set_option linter.unusedSimpArgs false

/-- An element, and that behind which it is put. -/
structure PutV where
  id : IdK
  bh : IdK
def PutV.c (p : PutV) : List Value := p.id.c ++ p.bh.c
def PutV.v (p : PutV) : Value := .agg p.c.toArray
structure PutV.ok (p : PutV) : Prop where
  id : p.id.ok
  bh : p.bh.ok
theorem PutV.len {p : PutV} (h : p.ok) : p.c.length = 66 := by simp [PutV.c, IdK.len h.id, IdK.len h.bh]
theorem PutV.one (p : PutV) : ∀ v ∈ p.c, v.oneCell' = true := by
  intro v hv
  rcases List.mem_append.1 hv with h | h
  · exact IdK.one _ v h
  · exact IdK.one _ v h
def zPut : PutV := ⟨zId, zId⟩
theorem zPut_ok : zPut.ok := ⟨zId_ok, zId_ok⟩
def PutsAt (w : World) (a : Option Addr) (L : List PutV) : Prop := L = [] ∨ ∃ b off, a = some ⟨b, off, none⟩ ∧ b < w.heap.size ∧ ∀ i h, L[i]? = some h → w.rangeAt b (off + 66 * i) (PutV.c h)
theorem PutsAt.below {w w' : World} {a : Option Addr} {L : List PutV} (h : PutsAt w a L) (hb : Below w.heap.size w w') : PutsAt w' a L := by
  rcases h with h | ⟨b, off, e, hl, hr⟩
  · exact .inl h
  · exact .inr ⟨b, off, e, Nat.lt_of_lt_of_le hl hb.size, fun i x hx => rangeAt_keep (hr i x hx) (hb.block b hl)⟩
/-- Ids, cell by cell. -/
def flatP (L : List PutV) : List Value := L.flatMap PutV.c
theorem flatP_len : ∀ {L : List PutV}, (∀ h ∈ L, h.ok) → (flatP L).length = 66 * L.length
  | [], _ => rfl
  | x :: L, ok => by
    have := flatP_len (L := L) (fun h hh => ok h (by simp [hh]))
    simp only [flatP, List.flatMap_cons, List.length_append, PutV.len (ok x (by simp)), List.length_cons] at this ⊢
    omega
theorem flatP_get : ∀ {L : List PutV}, (∀ h ∈ L, h.ok) → ∀ {i : Nat} {h : PutV}, L[i]? = some h → ∀ {j : Nat} {v : Value}, (PutV.c h)[j]? = some v → (flatP L)[66 * i + j]? = some v
  | x :: L, ok, 0, h, hi, j, v, hj => by
    simp only [List.getElem?_cons_zero, Option.some.injEq] at hi
    subst hi
    have hl := (List.getElem?_eq_some_iff.1 hj).1
    rw [Nat.mul_zero, Nat.zero_add, flatP, List.flatMap_cons, List.getElem?_append_left hl]
    exact hj
  | x :: L, ok, i + 1, h, hi, j, v, hj => by
    simp only [List.getElem?_cons_succ] at hi
    have := flatP_get (L := L) (fun h hh => ok h (by simp [hh])) hi hj
    have l := PutV.len (ok x (by simp))
    rw [flatP, List.flatMap_cons, List.getElem?_append_right (by omega), l, show 66 * (i + 1) + j - 66 = 66 * i + j by omega]
    exact this
  | [], _, i, h, hi, _, _, _ => by simp at hi
theorem flatP_inv : ∀ {L : List PutV}, (∀ h ∈ L, h.ok) → ∀ {p : Nat} {u : Value}, (flatP L)[p]? = some u → ∃ i h j, p = 66 * i + j ∧ L[i]? = some h ∧ (PutV.c h)[j]? = some u
  | [], _, p, u, hp => by simp [flatP] at hp
  | x :: L, ok, p, u, hp => by
    have l := PutV.len (ok x (by simp))
    rw [flatP, List.flatMap_cons, List.getElem?_append] at hp
    by_cases h : p < (PutV.c x).length
    · rw [if_pos h] at hp
      exact ⟨0, x, p, by omega, rfl, hp⟩
    · rw [if_neg h] at hp
      obtain ⟨i, y, j, e, hi, hj⟩ := flatP_inv (L := L) (fun h hh => ok h (by simp [hh])) hp
      exact ⟨i + 1, y, j, by omega, hi, hj⟩
theorem flatP_one (L : List PutV) : ∀ u ∈ flatP L, u.oneCell' = true := by
  intro u hu
  simp only [flatP, List.mem_flatMap] at hu
  obtain ⟨h, _, hv⟩ := hu
  exact PutV.one h u hv
theorem flatP_app (L M : List PutV) : flatP (L ++ M) = flatP L ++ flatP M := by simp [flatP]
/-- A row of Ids of the call's own. -/
def OwnP (w : World) (base : Nat) (v : Value) (L : List PutV) : Prop := w.ownsRow base 75 66 v L.length (flatP L)
theorem OwnP.below {w w' : World} {base : Nat} {v : Value} {L : List PutV} (h : OwnP w base v L) (hb : Below w.heap.size w w') : OwnP w' base v L := by
  refine ⟨h.1, ?_⟩
  rcases h.2 with hn | ⟨g, cap, cur, rfl, hbg, hg, rest⟩
  · exact .inl hn
  · exact .inr ⟨g, cap, cur, rfl, hbg, by rw [hb.block g (Array.getElem?_eq_some_iff.1 hg).1]; exact hg, rest⟩
theorem OwnP.keep {w w' : World} {base : Nat} {v : Value} {L : List PutV} (h : OwnP w base v L) (hk : ∀ k, v.ownBlock = some k → w'.heap[k]? = w.heap[k]?) : OwnP w' base v L := by
  refine ⟨h.1, ?_⟩
  rcases h.2 with hn | ⟨g, cap, cur, rfl, hbg, hg, rest⟩
  · exact .inl hn
  · exact .inr ⟨g, cap, cur, rfl, hbg, by rw [hk g rfl]; exact hg, rest⟩
theorem OwnP.open {w : World} {base : Nat} {v : Value} {L : List PutV} (h : OwnP w base v L) (ok : ∀ h ∈ L, h.ok) : ∃ a c, v = .slice a L.length c ∧ PutsAt w a L ∧ L.length ≤ c := by
  rcases h.2 with ⟨rfl, hn⟩ | ⟨g, cap, cur, rfl, hbg, hg, hnc, hcm, hcs, htake⟩
  · obtain rfl : L = [] := List.eq_nil_of_length_eq_zero hn
    exact ⟨none, 0, rfl, .inl rfl, Nat.le_refl _⟩
  · refine ⟨some ⟨g, 0, none⟩, cap, rfl, .inr ⟨g, 0, rfl, (Array.getElem?_eq_some_iff.1 hg).1, fun i x hx j u hj => ?_⟩, hnc⟩
    have e := flatP_get ok hx hj
    rw [Nat.zero_add, cell_of_row w g _ cur 75 (0, 0) hg]
    rw [← htake, List.getElem?_take] at e
    split at e
    · simpa using e
    · cases e
theorem infoP : (Try.prog.info? 75).map (fun i => (i.zero, i.size, i.bytes)) = some (some (.agg (PutV.c zPut).toArray), 66, 80) := by kernel_rfl
theorem zcellsP : (Value.agg (PutV.c zPut).toArray).cells.size = 66 := by
  show (PutV.c zPut).toArray.size = 66
  rw [List.size_toArray, PutV.len zPut_ok]
theorem run_appP (w : World) (base : Nat) (v : Value) (L : List PutV) (a : Option Addr) (M : List PutV) (c : Nat) (hown : OwnP w base v L) (hb : PutsAt w a M) (ok : ∀ h ∈ M, h.ok) (h : L.length + M.length ≤ 1400000000000) (hbase : base ≤ w.heap.size) :
    ∃ v' w', (Builtin.append_ #[43, 43] 43 #[v, .slice a M.length c]).run Try.prog w = .ok v' w' ∧ OwnP w' base v' (L ++ M) ∧ w.grownBy w' v.ownBlock ∧ (v'.ownBlock = v.ownBlock ∨ v'.ownBlock = some w.heap.size) := by
  obtain ⟨i, hi, hz, hs, hby⟩ := info_parts infoP
  cases a with
  | some ad =>
    have hnews : ∀ j u, (flatP M)[j]? = some u → w.cell? (ad.add j) = some u := fun j u hj => by
      rcases hb with rfl | ⟨b, off, e, _, hc⟩
      · simp [flatP] at hj
      · cases e
        obtain ⟨k, x, r, rfl, hx, hr⟩ := flatP_inv ok hj
        rw [Addr.add_mid, ← Nat.add_assoc]
        exact hc k x hx r u hr
    obtain ⟨v', w', hr, h2, h3, h5⟩ := app_at (P := Try.prog) w base 43 43 75 i _ 66 80 Try.underlying43 hi hz hs hby zcellsP (by decide) v L.length (flatP L) hown ad M.length c (flatP M) (by rw [flatP_len ok, Nat.mul_comm]) hnews (flatP_one M) (by unfold maxLen; omega) (by omega) hbase
    refine ⟨v', w', hr, ?_, h3, h5⟩
    unfold OwnP
    rw [List.length_append, flatP_app]
    exact h2
  | none =>
    obtain rfl : M = [] := by
      rcases hb with rfl | ⟨b, off, e, _⟩
      · rfl
      · cases e
    rcases hown.2 with ⟨rfl, hn⟩ | ⟨g, cap, cur, rfl, hbg, hg, hnc, rest⟩
    · refine ⟨.slice none 0 0, w, ?_, by rw [List.append_nil]; exact hown, ⟨rfl, rfl, rfl, Nat.le_refl _, fun _ _ _ => rfl⟩, .inl rfl⟩
      simp [Builtin.append_, run_underlying Try.underlying43, sizeOf, typeInfo, hi, Builtin.lenOf, Builtin.firstCells, loadCells, loadCellsFrom]
    · refine ⟨.slice (some ⟨g, 0, none⟩) L.length cap, w, ?_, by rw [List.append_nil]; exact hown, ⟨rfl, rfl, rfl, Nat.le_refl _, fun _ _ _ => rfl⟩, .inl rfl⟩
      simp [Builtin.append_, run_underlying Try.underlying43, sizeOf, typeInfo, hi, Builtin.lenOf, Builtin.firstCells, hnc, storeCells]
theorem puts_lit (w : World) (h : PutV) (t : TypeId) : PutsAt (w.alloc (.cells (PutV.c h).toArray t)) (some ⟨w.heap.size, 0, none⟩) [h] :=
  .inr ⟨w.heap.size, 0, rfl, by simp, fun i x hx j v hj => by
    have hl := (List.getElem?_eq_some_iff.1 hx).1
    obtain rfl : i = 0 := by simp at hl; omega
    simp at hx
    subst hx
    rw [Nat.mul_zero, Nat.add_zero, Nat.zero_add]
    exact cell_new w (PutV.c h) t j v hj⟩
theorem run_bsP (h : PutV) (ok : h.ok) (w : World) : (Instr.buildSlice 43 1 #[(0, .agg (PutV.c h).toArray)]).run Try.prog w = .ok (.slice (some ⟨w.heap.size, 0, none⟩) 1 1) (w.alloc (.cells (PutV.c h).toArray 75)) := by
  obtain ⟨ie, hi, hz, hs, hby⟩ := info_parts infoP
  refine run_buildSlice w 43 75 1 _ (PutV.c h).toArray ie _ Try.underlying43 hi hz (by rw [hs]; decide) (by rw [hs]; decide) ?_
  rw [hs]
  have := Go.Great.fill_whole (s := 66) (by decide) [.agg (PutV.c h).toArray] ((Array.range (1 * 66)).map ((Value.agg (PutV.c zPut).toArray).cells[· % (Value.agg (PutV.c zPut).toArray).cells.size]!)) (by intro v hv; simp at hv; subst hv; show (PutV.c h).toArray.size = 66; rw [List.size_toArray, PutV.len ok]) (by simp)
  simpa [Value.cells] using this
theorem szP : (Try.prog.info? 75).map (·.size) = some 66 := by kernel_rfl
section
variable {w : World} {b o : Nat} {p : PutV}
theorem ld_put (hp : p.ok) (h : w.rangeAt b o p.c) : (Instr.loadAt 75 (.pointer (some ⟨b, o, none⟩))).run Try.prog w = .ok p.v w :=
  run_loadAt_mid (P := Try.prog) w b o 75 p.c _ h Try.underlying75 rfl (by rw [PutV.len hp]; exact szP)
theorem ld_pid (hp : p.ok) (h : w.rangeAt b o p.c) : (Instr.loadAt 32 (.pointer (some ⟨b, o + 0, none⟩))).run Try.prog w = .ok p.id.v w :=
  run_loadAt_mid (P := Try.prog) w b o 32 p.id.c _ (fun j v hv => h j v (by rw [PutV.c, List.getElem?_append_left (List.getElem?_eq_some_iff.1 hv).1]; exact hv)) Try.underlying32 rfl (by rw [IdK.len hp.id]; exact szId)
theorem ld_pbh (hp : p.ok) (h : w.rangeAt b o p.c) : (Instr.loadAt 32 (.pointer (some ⟨b, o + 33, none⟩))).run Try.prog w = .ok p.bh.v w :=
  run_loadAt_mid (P := Try.prog) w b (o + 33) 32 p.bh.c _ (fun j v hv => by rw [Nat.add_assoc]; exact h (33 + j) v (by rw [PutV.c, List.getElem?_append_right (by rw [IdK.len hp.id]; omega), IdK.len hp.id, show 33 + j - 33 = j by omega]; exact hv)) Try.underlying32 rfl (by rw [IdK.len hp.bh]; exact szId)
theorem ld_pn (hp : p.ok) (h : w.rangeAt b o p.c) : (Instr.loadAt 3 (.pointer (some ⟨b, o + 0 + 32, none⟩))).run Try.prog w = .ok (.int .i64 p.id.n) w := by
  have hl := hp.id.l
  have := h 32 (.int .i64 p.id.n) (by
    rw [PutV.c, List.getElem?_append_left (by rw [IdK.len hp.id]; omega), IdK.c, List.getElem?_append_right (by rw [hcs_len, hl]; omega), hcs_len, hl]
    rfl)
  rw [Nat.add_zero]
  go_simp
end
theorem ix_put {b o m c i : Nat} (hi : i < m) (hm : m ≤ 1400000000000) (W : World) : (Instr.indexAt 43 (.slice (some ⟨b, o, none⟩) m c) (.int .i64 (i : Int))).run Try.prog W = .ok (.pointer (some ⟨b, o + 66 * i, none⟩)) W := by
  have : (Instr.indexAt 43 (.slice (some ⟨b, o, none⟩) m c) (.int .i64 (i : Int))).run Try.prog W = .ok (.pointer (some ⟨b, o + i * 66, none⟩)) W := by go_simp
  rw [this, Nat.mul_comm]
theorem ix_idl {b o m c i : Nat} (hi : i < m) (hm : m ≤ 1400000000000) (W : World) : (Instr.indexAt 44 (.slice (some ⟨b, o, none⟩) m c) (.int .i64 (i : Int))).run Try.prog W = .ok (.pointer (some ⟨b, o + 33 * i, none⟩)) W := by
  have : (Instr.indexAt 44 (.slice (some ⟨b, o, none⟩) m c) (.int .i64 (i : Int))).run Try.prog W = .ok (.pointer (some ⟨b, o + i * 33, none⟩)) W := by go_simp
  rw [this, Nat.mul_comm]
theorem fg_75_0 (b o : Nat) (W : World) : (Instr.fieldAt 75 (.pointer (some ⟨b, o, none⟩)) 0).run Try.prog W = .ok (.pointer (some ⟨b, o + 0, none⟩)) W := by go_simp
theorem fg_75_1 (b o : Nat) (W : World) : (Instr.fieldAt 75 (.pointer (some ⟨b, o, none⟩)) 1).run Try.prog W = .ok (.pointer (some ⟨b, o + 33, none⟩)) W := by go_simp
theorem len_puts (a : Option Addr) (n c : Nat) (W : World) (ty : TypeId) : (Builtin.len_ #[43] ty #[.slice a n c]).run Try.prog W = .ok (.int .i64 (n : Int)) W := by go_simp
theorem len_ids (a : Option Addr) (n c : Nat) (W : World) (ty : TypeId) : (Builtin.len_ #[44] ty #[.slice a n c]).run Try.prog W = .ok (.int .i64 (n : Int)) W := by go_simp
end Go.Proofs.Ytlejbdepoemcjaa

namespace Go.Proofs.Ytlejbdepoemcjaa
open Go.ChangeShapes Go.WideShapes Go.ChangeAt Go.RowKit
set_option linter.unusedVariables false
set_option linter.unusedSimpArgs false

/-- Rows of values of k cells each. -/
def RowAt {κ : Type} (k : Nat) (encd : κ → List Value) (w : World) (a : Option Addr) (L : List κ) : Prop := L = [] ∨ ∃ b off, a = some ⟨b, off, none⟩ ∧ b < w.heap.size ∧ ∀ i x, L[i]? = some x → w.rangeAt b (off + i * k) (encd x)
theorem RowAt.below {κ : Type} {k : Nat} {encd : κ → List Value} {w w' : World} {a : Option Addr} {L : List κ} (h : RowAt k encd w a L) (hb : Below w.heap.size w w') : RowAt k encd w' a L := by
  rcases h with h | ⟨b, off, e, hl, hr⟩
  · exact .inl h
  · exact .inr ⟨b, off, e, Nat.lt_of_lt_of_le hl hb.size, fun i x hx => rangeAt_keep (hr i x hx) (hb.block b hl)⟩
/-- The same, where old blocks stay but some. -/
theorem RowAt.keep {κ : Type} {k : Nat} {encd : κ → List Value} {w w' : World} {a : Option Addr} {L : List κ} {N : Nat} (h : RowAt k encd w a L) (hN : N = w.heap.size) (hb : Below N w w') : RowAt k encd w' a L := by
  subst hN
  exact h.below hb
section
variable {H : Type} {enc : TypeId × Value → H} {W : World}
theorem view_rows {κ : Type} {T e k : Nat} {encd : κ → List Value} {ok : κ → Prop} (hT : Try.prog.underlying T = some (.slice e)) (hce : Try.prog.cellsOf e = k) (hk : 0 < k) (hlen : ∀ x, ok x → (encd x).length = k)
    (hcells : ∀ (fuel : Nat) (cs : List Value) (y : DataW H × List MemPlace), DataW.trod enc Try.prog W 0 (fun _ => true) true fuel e cs = some y → ∃ x, ok x ∧ cs = encd x)
    {a : Option Addr} {len cap : Nat} {d : DataW H} {p : List MemPlace} (h : DataW.Trod enc Try.prog W 0 (fun _ => true) true T (.slice a len cap) d p) :
    ∃ L : List κ, L.length = len ∧ (∀ x ∈ L, ok x) ∧ RowAt k encd W a L ∧ (d = .nil ∧ len = 0 ∨ ∃ el sp, d = .slice el sp ∧ el.length = len) := by
  obtain ⟨fuel, hf⟩ := h
  rcases DataW.trod_slice hT hf with ⟨hcs', hx⟩ | ⟨ad, l, c, elems, rest, n, _, hcs', hx, _, hl, hm, hel, hcell, _, _⟩
  · simp [Value.cells] at hcs'
    obtain ⟨rfl, rfl, rfl⟩ := hcs'
    simp only [Prod.mk.injEq] at hx
    exact ⟨[], rfl, fun v hv => (by cases hv), .inl rfl, .inl ⟨hx.1, rfl⟩⟩
  · simp [Value.cells] at hcs'
    obtain ⟨rfl, rfl, rfl⟩ := hcs'
    simp only [Prod.mk.injEq] at hx
    obtain ⟨b, off, spot⟩ := ad
    have raw : ∀ i, i < len → ∃ v : κ, ok v ∧ ∀ j u, (encd v)[j]? = some u → W.cell? (((⟨b, off, spot⟩ : Addr).add (i * k)).add j) = some u := fun i hi => by
      have hi2 := hcell i hi
      rw [List.getElem?_eq_getElem (by omega), hce, Option.bind_eq_some_iff] at hi2
      obtain ⟨cs, hc1, hc2⟩ := hi2
      obtain ⟨v, hv, rfl⟩ := hcells _ _ _ hc2
      obtain ⟨_, _, hc3⟩ := World.cells?_some hc1
      refine ⟨v, hv, fun j u hu => ?_⟩
      have hj := (List.getElem?_eq_some_iff.1 hu).1
      rw [hlen v hv] at hj
      rw [hc3 j hj]
      exact hu
    have hspot : 0 < len → spot = none ∧ b < W.heap.size := fun h0 => by
      obtain ⟨v, hv, hc⟩ := raw 0 h0
      have q := hc 0 _ (List.getElem?_eq_getElem (by rw [hlen v hv]; omega))
      have q1 := World.cell?_spot q
      have q2 : spot = none := by simpa [Addr.add] using q1
      subst q2
      refine ⟨rfl, ?_⟩
      rw [Addr.add_mid, Addr.add_mid] at q
      exact block_lt_of_cell q
    by_cases h0 : 0 < len
    · obtain ⟨hs, hb⟩ := hspot h0
      subst hs
      obtain ⟨v0, _⟩ := raw 0 h0
      let F : Nat → κ := fun i => if h : i < len then Classical.choose (raw i h) else v0
      have hF : ∀ i (h : i < len), F i = Classical.choose (raw i h) := fun i h => dif_pos h
      refine ⟨(List.range len).map F, by simp, fun v hv => ?_, ?_, .inr ⟨_, _, hx.1, by simp [hel]⟩⟩
      · rw [List.mem_map] at hv
        obtain ⟨i, hi, rfl⟩ := hv
        rw [List.mem_range] at hi
        rw [hF i hi]
        exact (Classical.choose_spec (raw i hi)).1
      · refine .inr ⟨b, off, rfl, hb, fun i v hv => ?_⟩
        have hi : i < len := by
          have := (List.getElem?_eq_some_iff.1 hv).1
          simpa using this
        rw [List.getElem?_map, List.getElem?_range hi] at hv
        simp only [Option.map_some, Option.some.injEq] at hv
        subst hv
        rw [hF i hi]
        intro j u hu
        have := (Classical.choose_spec (raw i hi)).2 j u hu
        rwa [Addr.add_mid, Addr.add_mid] at this
    · obtain rfl : len = 0 := by omega
      exact ⟨[], rfl, fun v hv => (by cases hv), .inl rfl, .inr ⟨_, _, hx.1, by simp [hel]⟩⟩
theorem i64_wf {z : Int} (h : (Lit.int .i64 z).wf = true) : -9223372036854775808 ≤ z ∧ z ≤ 9223372036854775807 := by
  simp [Lit.wf, IntKind.min, IntKind.max, IntKind.signed, IntKind.bits] at h
  omega
theorem u8_wf {z : Int} (h : (Lit.int .u8 z).wf = true) : 0 ≤ z ∧ z ≤ 255 := by
  simp [Lit.wf, IntKind.min, IntKind.max, IntKind.signed, IntKind.bits] at h
  omega
def intV : Value → Int
  | .int _ z => z
  | _ => 0
theorem cells_int : Try.prog.cellsOf 3 = 1 := by kernel_rfl
theorem cells_str : Try.prog.cellsOf 9 = 1 := by kernel_rfl
theorem cells_hash : Try.prog.cellsOf 30 = 32 := by kernel_rfl
theorem cells_id : Try.prog.cellsOf 32 = 33 := by kernel_rfl
theorem hash_cells {fuel : Nat} {cs : List Value} {y : DataW H × List MemPlace} (h : DataW.trod enc Try.prog W 0 (fun _ => true) true fuel 30 cs = some y) : ∃ l : List UInt8, l.length = 32 ∧ cs = hcs l := by
  obtain ⟨xs, m, _, _, hlen, hxs, hall⟩ := DataW.trod_array Try.underlying30 h
  rw [cells_hash] at hlen
  have hce : Try.prog.cellsOf 5 = 1 := by kernel_rfl
  have key : ∀ i (hi : i < cs.length), ∃ z : Int, cs[i] = .int .u8 z ∧ 0 ≤ z ∧ z ≤ 255 := by
    intro i hi
    have h1 := hall i (by omega)
    rw [hce, Nat.mul_one, List.getElem?_eq_getElem (by omega)] at h1
    obtain ⟨z, e0, _, w0⟩ := DataW.trod_int Try.underlying5 h1
    have hb := u8_wf w0
    refine ⟨z, ?_, hb.1, hb.2⟩
    rw [List.drop_eq_getElem_cons hi, List.take_succ_cons, List.take_zero] at e0
    exact (List.cons.inj e0).1
  refine ⟨cs.map (fun v => UInt8.ofNat (intV v).toNat), by simpa using hlen, ?_⟩
  apply List.ext_getElem
  · simp [hcs, bs]
  · intro i h1 h2
    obtain ⟨z, hz, z0, z1⟩ := key i h1
    simp only [hcs, bs, List.map_map, List.getElem_map, Function.comp_apply]
    rw [hz]
    simp only [intV, Value.int.injEq, true_and]
    rw [UInt8.toNat_ofNat']
    omega
theorem list_split {α : Type} {l : List α} {n m : Nat} (h : l.length = n + m) : ∃ a b, l = a ++ b ∧ a.length = n ∧ b.length = m := ⟨l.take n, l.drop n, (List.take_append_drop n l).symm, by simp; omega, by simp; omega⟩
theorem id_cells {fuel : Nat} {cs : List Value} {y : DataW H × List MemPlace} (h : DataW.trod enc Try.prog W 0 (fun _ => true) true fuel 32 cs = some y) : ∃ x : IdK, x.ok ∧ cs = x.c := by
  obtain ⟨y0, y1, n, _, hcl, h0, h1⟩ := trod_struct2 Try.underlying32 h
  rw [cells_id] at hcl
  obtain ⟨A, B, rfl, hA, hB⟩ := list_split (n := 32) (m := 1) hcl
  simp only [cells_hash, cells_int, List.drop_zero] at h0 h1
  rw [← hA, List.take_left] at h0
  rw [← hA, List.drop_left, List.take_of_length_le (by omega)] at h1
  obtain ⟨k, hk, rfl⟩ := hash_cells h0
  obtain ⟨z, e0, _, w0⟩ := DataW.trod_int Try.underlying3 h1
  subst e0
  have b := i64_wf w0
  exact ⟨⟨k, z⟩, ⟨hk, b.1, b.2⟩, rfl⟩
end
theorem cells_put : Try.prog.cellsOf 75 = 66 := by kernel_rfl
theorem put_cells {H : Type} {enc : TypeId × Value → H} {W : World} (fuel : Nat) (cs : List Value) (y : DataW H × List MemPlace) (h : DataW.trod enc Try.prog W 0 (fun _ => true) true fuel 75 cs = some y) : ∃ x : PutV, x.ok ∧ cs = x.c := by
  obtain ⟨y0, y1, n, _, hcl, h0, h1⟩ := trod_struct2 Try.underlying75 h
  rw [cells_put] at hcl
  obtain ⟨A, B, rfl, hA, hB⟩ := list_split (n := 33) (m := 33) hcl
  simp only [cells_id, List.drop_zero] at h0 h1
  rw [← hA, List.take_left] at h0
  rw [← hA, List.drop_left, List.take_of_length_le (by omega)] at h1
  obtain ⟨k, hk, rfl⟩ := id_cells h0
  obtain ⟨q, hq, rfl⟩ := id_cells h1
  exact ⟨⟨k, q⟩, ⟨hk, hq⟩, rfl⟩
theorem view_puts {H : Type} {enc : TypeId × Value → H} {W : World} {a : Option Addr} {len cap : Nat} {d : DataW H} {p : List MemPlace} (h : DataW.Trod enc Try.prog W 0 (fun _ => true) true 43 (.slice a len cap) d p) :
    ∃ L : List PutV, L.length = len ∧ (∀ x ∈ L, x.ok) ∧ PutsAt W a L ∧ (d = .nil ∧ len = 0 ∨ ∃ el sp, d = .slice el sp ∧ el.length = len) := by
  obtain ⟨L, h1, h2, h3, h4⟩ := view_rows Try.underlying43 cells_put (by omega) (fun x hx => PutV.len hx) put_cells h
  refine ⟨L, h1, h2, ?_, h4⟩
  rcases h3 with h3 | ⟨b, off, e, hl, hr⟩
  · exact .inl h3
  · exact .inr ⟨b, off, e, hl, fun i x hx => by rw [Nat.mul_comm]; exact hr i x hx⟩
theorem view_idl {H : Type} {enc : TypeId × Value → H} {W : World} {a : Option Addr} {len cap : Nat} {d : DataW H} {p : List MemPlace} (h : DataW.Trod enc Try.prog W 0 (fun _ => true) true 44 (.slice a len cap) d p) :
    ∃ L : List IdK, L.length = len ∧ (∀ x ∈ L, x.ok) ∧ IdsAt W a L ∧ (d = .nil ∧ len = 0 ∨ ∃ el sp, d = .slice el sp ∧ el.length = len) := by
  obtain ⟨L, h1, h2, h3, h4⟩ := view_rows Try.underlying44 cells_id (by omega) (fun x hx => IdK.len hx) (fun fuel cs y h => id_cells h) h
  refine ⟨L, h1, h2, ?_, h4⟩
  rcases h3 with h3 | ⟨b, off, e, hl, hr⟩
  · exact .inl h3
  · exact .inr ⟨b, off, e, hl, fun i x hx => by rw [Nat.mul_comm]; exact hr i x hx⟩
end Go.Proofs.Ytlejbdepoemcjaa

namespace Go.Proofs.Ytlejbdepoemcjaa
open Go.ChangeShapes Go.WideShapes Go.ChangeAt Go.RowKit
set_option linter.unusedVariables false

theorem bulk_one {H : Type} (d : DataW H) : 1 ≤ Rows.uptoBulk d := by
  cases d with
  | lit l => cases l <;> simp [Rows.uptoBulk]
  | _ => simp [Rows.uptoBulk]
theorem bulk_len {H : Type} (l : List (DataW H)) : l.length ≤ Rows.uptoBulkAll l := by
  induction l with
  | nil => simp [Rows.uptoBulkAll]
  | cons x r ih => have := bulk_one x; simp only [Rows.uptoBulkAll, List.length_cons]; omega
theorem bulk_ops {H : Type} {d : DataW H} {n : Nat} (h : d = .nil ∧ n = 0 ∨ ∃ el sp, d = .slice el sp ∧ el.length = n) (hb : Rows.uptoBulk d ≤ 1048576) : n ≤ 1048576 := by
  rcases h with ⟨_, h2⟩ | ⟨el, sp, rfl, h2⟩
  · omega
  · have := bulk_len el
    simp only [Rows.uptoBulk] at hb
    omega
theorem whole_any {H : Type} {o : Option (List (DataW H) × List (DataW H) × List MemPlace)} (h : (match o with | some (d, [], _) => Rows.uptoSmall H (d ++ []) | _ => false) = true) : ∃ d places, o = some (d, [], places) ∧ Rows.uptoSmall H (d ++ []) = true := by
  match o, h with
  | some (d, [], pl), h => exact ⟨d, pl, rfl, h⟩
  | some (_, _ :: _, _), h => cases h
  | none, h => cases h
set_option maxRecDepth 100000 in
theorem view_id {H : Type} {enc : TypeId × Value → H} {W : World} {base : Nat} {v : Value} {d : DataW H} {p : List MemPlace} (hv : Value.okWide Try.prog W .any base 32 v) (h : DataW.Trod enc Try.prog W 0 (fun _ => true) true 32 v d p) : ∃ k : IdK, k.ok ∧ v = k.v := by
  obtain ⟨cs, rfl, _⟩ := okWide_struct Try.underlying32 hv
  obtain ⟨fuel, hf⟩ := h
  obtain ⟨k, hk, e⟩ := id_cells hf
  refine ⟨k, hk, ?_⟩
  have e' : cs.toList = k.c := e
  unfold IdK.v
  rw [← e']
end Go.Proofs.Ytlejbdepoemcjaa

namespace Go.Proofs.Ytlejbdepoemcjaa
open Go.RowKit
set_option linter.unusedVariables false
set_option linter.unusedSimpArgs false

theorem load_id_at {w : World} {b o : Nat} {k : IdK} (hk : k.ok) (h : w.rangeAt b o k.c) : (Instr.loadAt 32 (.pointer (some ⟨b, o, none⟩))).run Try.prog w = .ok k.v w :=
  run_loadAt_mid (P := Try.prog) w b o 32 k.c _ h Try.underlying32 rfl (by rw [IdK.len hk]; exact szId)
set_option maxRecDepth 100000 in
set_option maxHeartbeats 2000000 in
theorem same_ids (a b : Option Addr) (ca cb : Nat) (A B : List IdK) (w : World) (hA : IdsAt w a A) (hB : IdsAt w b B) (oA : ∀ x ∈ A, x.ok) (oB : ∀ x ∈ B, x.ok) (lA : A.length ≤ 7000000000000) :
    Calls Try.prog 44 #[.slice a A.length ca, .slice b B.length cb] w fun e w' => e = .returned (.bool (decide (A = B))) ∧ Below w.heap.size w w' := by
  obtain ⟨n, hn⟩ : ∃ n, A.length = n := ⟨_, rfl⟩
  obtain ⟨m, hm⟩ : ∃ m, B.length = m := ⟨_, rfl⟩
  have HN := hidMk hn
  have HM := hidMk hm
  have HLA := hidMk lA
  rw [hn, hm]
  by_cases hnm : n = m
  · subst hnm
    clear hn hm lA
    go_enter Try.func44, Try.ntmps44
    go_wp2
    go_loopw [5] (fun v5 wr => ∃ i : Nat, v5 = .int .i64 (i : Int) ∧ i ≤ n ∧ A.take i = B.take i ∧ Below w.heap.size w wr) (fun v5 wr => n - (match v5 with | .int _ i => i.toNat | _ => 0))
    case atStart => exact ⟨0, rfl, Nat.zero_le _, rfl, Below.refl _ _⟩
    case round =>
      obtain ⟨i, rfl, hin, htk, bel⟩ := hrel
      have hLn := HN.out
      have hLm := HM.out
      by_cases hi : i < n
      · have hxi : A[i]? = some A[i] := List.getElem?_eq_getElem (by omega)
        have hyi : B[i]? = some B[i] := List.getElem?_eq_getElem (by omega)
        generalize A[i] = x at hxi
        generalize B[i] = y at hyi
        have hxo : x.ok := oA x (List.mem_of_getElem? hxi)
        have hyo : y.ok := oB y (List.mem_of_getElem? hyi)
        obtain ⟨b1, o1, rfl, lb1, r1⟩ : ∃ b1 o1, a = some ⟨b1, o1, none⟩ ∧ b1 < w.heap.size ∧ w.rangeAt b1 (o1 + i * 33) x.c := by
          rcases hA with rfl | ⟨b1, o1, e, h1, h2⟩
          · simp at hxi
          · exact ⟨b1, o1, e, h1, by rw [Nat.mul_comm]; exact h2 i x hxi⟩
        obtain ⟨b2, o2, rfl, lb2, r2⟩ : ∃ b1 o1, b = some ⟨b1, o1, none⟩ ∧ b1 < w.heap.size ∧ w.rangeAt b1 (o1 + i * 33) y.c := by
          rcases hB with rfl | ⟨b1, o1, e, h1, h2⟩
          · simp at hyi
          · exact ⟨b1, o1, e, h1, by rw [Nat.mul_comm]; exact h2 i y hyi⟩
        have bel' : Below w.heap.size w wr.drew := bel.drew
        have L1 := hidMk (load_id_at hxo (rangeAt_keep r1 (bel'.block _ lb1)))
        have L2 := hidMk (load_id_at hyo (rangeAt_keep r2 (bel'.block _ lb2)))
        have HT := hidMk htk
        have HX := hidMk (And.intro hxi hyi)
        clear htk hxi hyi r1 r2 hLn hLm
        go_upto_region 6 with fail
        refine wp_region_still_tail 8 (by kernel_rfl) (by kernel_rfl) ?_
        simp only [List.take_succ_cons, List.take_zero, List.drop_succ_cons, List.drop_zero]
        change wpStill _ _ wr.drew (fun a' => wpList _ _ _ _ a' wr.drew) _ _
        generalize wr.drew = wd at *
        iterate 3 still_step
        refine still_val rfl (exec_load (t := 32) (u := .pointer (some ⟨b1, o1 + i * 33, none⟩)) rfl rfl L1.out) ?_
        simp only [Act.put, List.setIfInBounds_toArray, List.set_cons_zero, List.set_cons_succ]
        iterate 3 still_step
        refine still_val rfl (exec_load (t := 32) (u := .pointer (some ⟨b2, o2 + i * 33, none⟩)) rfl rfl L2.out) ?_
        simp only [Act.put, List.setIfInBounds_toArray, List.set_cons_zero, List.set_cons_succ]
        refine wpStill_nil ?_
        refine wpList_val rfl (exec_binOp (xv := x.v) (yv := y.v) rfl rfl rfl (guard_id _ _ x y _ _) (neq_id x y hxo hyo _)) ?_
        simp only [Act.put, List.setIfInBounds_toArray, List.set_cons_zero, List.set_cons_succ]
        by_cases hxy : x = y
        · subst hxy
          simp only [decide_true, Bool.not_true]
          go_wp2
          have hwr : Go.RowKit.wrap64 ((i : Int) + 1) = ((i + 1 : Nat) : Int) := by
            have := HLA.out
            have := HN.out
            unfold Go.RowKit.wrap64
            omega
          rw [hwr]
          refine ⟨⟨i + 1, rfl, hi, ?_, bel'⟩, ?_⟩
          · rw [List.take_add_one, List.take_add_one, HX.out.1, HX.out.2, HT.out]
          · show n - ((i + 1 : Nat) : Int).toNat < n - (i : Int).toNat
            omega
        · have hd : decide (x = y) = false := by simpa using hxy
          rw [hd]
          simp only [Bool.not_false]
          go_wp2
          go_ret
          refine ⟨?_, bel'⟩
          have : A ≠ B := fun e => by
            rw [e] at HX
            exact hxy (Option.some.inj (HX.out.1.symm.trans HX.out.2))
          simp [this]
      · obtain rfl : i = n := by omega
        have hAB : A = B := by rw [List.take_of_length_le (by omega), List.take_of_length_le (by omega)] at htk; exact htk
        have HAB := hidMk hAB
        clear hAB htk hLn hLm hin
        go_wp2
        go_ret
        exact ⟨by simp [HAB.out], bel⟩
  · have hne : A ≠ B := fun e => hnm (by rw [← hn, ← hm, e])
    have hnm2 : ((n : Int) == (m : Int)) = false := by simp; omega
    have hnm3 : ((n : Int) != (m : Int)) = true := by simp; omega
    have HNE := hidMk hne
    clear hn hm hne hnm
    go_enter Try.func44, Try.ntmps44
    go_wp2
    go_ret
    exact ⟨by simp [HNE.out], Below.refl _ _⟩
end Go.Proofs.Ytlejbdepoemcjaa

namespace Go.Proofs.Ytlejbdepoemcjaa
open Go.RowKit Sq
set_option linter.unusedVariables false
set_option linter.unusedSimpArgs false

theorem ex_eql36 {w : World} {a : Act} {o : Oper} {x y : Operand} {p q : Int} {r : Bool} (ho : o.op = .binOp .eql 36 x y 36) (hx : a.eval x = .int .i64 p) (hy : a.eval y = .int .i64 q) (h : decide (p = q) = r) : (execOp a.eval o).run Try.prog w = .ok (.value (.bool r)) w := by
  refine exec_binOp ho hx hy ?_ ?_
  · kernel_rfl
  · subst h
    go_simp
    first | rfl | (congr 2; rw [Bool.eq_iff_iff]; simp)
def laid8_o0 : Oper := { dst := some 16, op := Op.move (Operand.tmp 4), type := 23, pos := "law.go:98", after := #[], guard := none }
def laid8_o1 : Oper := { dst := some 17, op := Op.move (Operand.tmp 0), type := 43, pos := "law.go:98", after := #[], guard := none }
def laid8_o2 : Oper := { dst := some 18, op := Op.move (Operand.tmp 6), type := 3, pos := "law.go:98", after := #[], guard := none }
def laid8_o3 : Oper := { dst := some 19, op := Op.indexAddr 43 (Operand.tmp 17) (Operand.tmp 18), type := 0, pos := "law.go:98", after := #[{ on := 1, ground := Ground.data }, { on := 2, ground := Ground.data }], guard := none }
def laid8_o4 : Oper := { dst := some 20, op := Op.fieldAddr 75 (Operand.tmp 19) 0, type := 0, pos := "law.go:98", after := #[{ on := 3, ground := Ground.data }], guard := none }
def laid8_o5 : Oper := { dst := some 21, op := Op.load 32 (Operand.tmp 20), type := 32, pos := "law.go:98", after := #[{ on := 4, ground := Ground.data }], guard := none }
def laid8_o6 : Oper := { dst := some 22, op := Op.move (Operand.tmp 0), type := 43, pos := "law.go:98", after := #[], guard := none }
def laid8_o7 : Oper := { dst := some 23, op := Op.move (Operand.tmp 6), type := 3, pos := "law.go:98", after := #[], guard := none }
def laid8_o8 : Oper := { dst := some 24, op := Op.indexAddr 43 (Operand.tmp 22) (Operand.tmp 23), type := 0, pos := "law.go:98", after := #[{ on := 6, ground := Ground.data }, { on := 7, ground := Ground.data }], guard := none }
def laid8_o9 : Oper := { dst := some 25, op := Op.fieldAddr 75 (Operand.tmp 24) 1, type := 0, pos := "law.go:98", after := #[{ on := 8, ground := Ground.data }], guard := none }
def laid8_o10 : Oper := { dst := some 26, op := Op.load 32 (Operand.tmp 25), type := 32, pos := "law.go:98", after := #[{ on := 9, ground := Ground.data }], guard := none }
def laid8_o11 : Oper := { dst := some 27, op := Op.call { callee := Callee.value (Operand.func 10), args := #[Operand.tmp 16, Operand.tmp 21, Operand.tmp 26], argTypes := #[23, 32, 32] }, type := 36, pos := "law.go:98", after := #[{ on := 0, ground := Ground.data }, { on := 5, ground := Ground.data }, { on := 10, ground := Ground.data }], guard := none }
def laid8_o12 : Oper := { dst := some 28, op := Op.binOp BinOp.eql 36 (Operand.tmp 27) (Operand.const (Value.int IntKind.i64 0)) 36, type := 4, pos := "law.go:98", after := #[{ on := 11, ground := Ground.data }], guard := none }
def laid8_ops : Array Oper := #[laid8_o0, laid8_o1, laid8_o2, laid8_o3, laid8_o4, laid8_o5, laid8_o6, laid8_o7, laid8_o8, laid8_o9, laid8_o10, laid8_o11, laid8_o12]
set_option maxRecDepth 100000 in
set_option maxHeartbeats 4000000 in
theorem laid8 {pb po m pc i : Nat} {p : PutV} {sb : Nat} {c : Int} {r : Bool} (Fin : World → Prop) (a : Act) (w : World) (Q : Exit → Act → World → Prop) (zz : a.tmps.size = 38)
    (t0 : a.tmps.getD 0 undef = .slice (some ⟨pb, po, none⟩) m pc)
    (t4 : a.tmps.getD 4 undef = .pointer (some ⟨sb, 0, none⟩))
    (t6 : a.tmps.getD 6 undef = .int .i64 (i : Int))
    (hp : p.ok) (hi : i < m) (hm : m ≤ 1400000000000) (h0 : w.drew.rangeAt pb (po + 66 * i) p.c) (hr : decide (c = 0) = r) (CI : Calls Try.prog 10 #[.pointer (some ⟨sb, 0, none⟩), p.id.v, p.bh.v] w.drew fun e w' => e = .returned (.int .i64 c) ∧ w'.rangeAt pb (po + 66 * i) p.c ∧ Fin w')
    (h : ∀ (a' : Act) (w' : World), Fin w' → a' = (((((((((((((a).put (some 16) (.pointer (some ⟨sb, 0, none⟩))).put (some 17) (.slice (some ⟨pb, po, none⟩) m pc)).put (some 18) (.int .i64 (i : Int))).put (some 19) (.pointer (some ⟨pb, po + 66 * i, none⟩))).put (some 20) (.pointer (some ⟨pb, po + 66 * i + 0, none⟩))).put (some 21) (p.id.v)).put (some 22) (.slice (some ⟨pb, po, none⟩) m pc)).put (some 23) (.int .i64 (i : Int))).put (some 24) (.pointer (some ⟨pb, po + 66 * i, none⟩))).put (some 25) (.pointer (some ⟨pb, po + 66 * i + 33, none⟩))).put (some 26) (p.bh.v)).put (some 27) (.int .i64 c)).put (some 28) (.bool r) → Q .normal a' w') :
    (Code.region 8 laid8_ops true).wp Try.prog Q a w := by
  refine y0 (fun w' => w'.rangeAt pb (po + 66 * i) p.c) (h0) (fun hHeld => ?_)
  refine yv 0 rfl rfl (fun w1 hw => exec_move rfl (zi t4 rfl)) hHeld ?_
  refine yv 1 rfl rfl (fun w1 hw => exec_move rfl (zi t0 rfl)) hHeld ?_
  refine yv 2 rfl rfl (fun w1 hw => exec_move rfl (zi t6 rfl)) hHeld ?_
  refine yv 3 rfl rfl (fun w1 hw => exec_indexAt rfl (zg zz rfl) (zg zz rfl) (ix_put hi hm _)) hHeld ?_
  refine yv 4 rfl rfl (fun w1 hw => exec_fieldAt rfl (zg zz rfl) (fg_75_0 _ _ _)) hHeld ?_
  refine yv 5 rfl rfl (fun w1 hw => exec_load rfl (zg zz rfl) (ld_pid hp hw)) hHeld ?_
  refine yv 6 rfl rfl (fun w1 hw => exec_move rfl (zi t0 rfl)) hHeld ?_
  refine yv 7 rfl rfl (fun w1 hw => exec_move rfl (zi t6 rfl)) hHeld ?_
  refine yv 8 rfl rfl (fun w1 hw => exec_indexAt rfl (zg zz rfl) (zg zz rfl) (ix_put hi hm _)) hHeld ?_
  refine yv 9 rfl rfl (fun w1 hw => exec_fieldAt rfl (zg zz rfl) (fg_75_1 _ _ _)) hHeld ?_
  refine yv 10 rfl rfl (fun w1 hw => exec_load rfl (zg zz rfl) (ld_pbh hp hw)) hHeld ?_
  refine yc 11 rfl rfl (exec_c3 rfl (zg zz rfl) (zg zz rfl) (zg zz rfl)) (CI) (fun e x11 hx => ?_)
  obtain ⟨rfl, S1, HF⟩ := hx
  refine ⟨_, rfl, S1, fun hHeld => ?_⟩
  refine yv (v := .bool r) 12 rfl rfl (fun w1 hw => ex_eql36 rfl (zg zz rfl) rfl hr) hHeld ?_
  exact ye rfl (h _ _ (HF) rfl)
def laid9_o0 : Oper := { dst := some 29, op := Op.move (Operand.tmp 5), type := 43, pos := "law.go:99", after := #[], guard := none }
def laid9_o1 : Oper := { dst := some 30, op := Op.move (Operand.tmp 0), type := 43, pos := "law.go:99", after := #[], guard := none }
def laid9_o2 : Oper := { dst := some 31, op := Op.move (Operand.tmp 6), type := 3, pos := "law.go:99", after := #[], guard := none }
def laid9_o3 : Oper := { dst := some 32, op := Op.indexAddr 43 (Operand.tmp 30) (Operand.tmp 31), type := 0, pos := "law.go:99", after := #[{ on := 1, ground := Ground.data }, { on := 2, ground := Ground.data }], guard := none }
def laid9_o4 : Oper := { dst := some 33, op := Op.load 75 (Operand.tmp 32), type := 75, pos := "law.go:99", after := #[{ on := 3, ground := Ground.data }], guard := none }
def laid9_o5 : Oper := { dst := some 34, op := Op.buildSlice 43 1 #[(0, Operand.tmp 33)], type := 43, pos := "law.go:99", after := #[{ on := 4, ground := Ground.data }], guard := none }
def laid9_o6 : Oper := { dst := some 35, op := Op.call { callee := Callee.builtin Builtin.append, args := #[Operand.tmp 29, Operand.tmp 34], argTypes := #[43, 43] }, type := 43, pos := "law.go:99", after := #[{ on := 0, ground := Ground.data }, { on := 5, ground := Ground.data }], guard := none }
def laid9_o7 : Oper := { dst := some 5, op := Op.assign (Operand.tmp 35), type := 43, pos := "law.go:99", after := #[{ on := 6, ground := Ground.data }, { on := 6, ground := Ground.chain }, { on := 0, ground := Ground.phase }, { on := 1, ground := Ground.phase }, { on := 2, ground := Ground.phase }, { on := 3, ground := Ground.phase }, { on := 4, ground := Ground.phase }, { on := 5, ground := Ground.phase }, { on := 6, ground := Ground.phase }], guard := none }
def laid9_ops : Array Oper := #[laid9_o0, laid9_o1, laid9_o2, laid9_o3, laid9_o4, laid9_o5, laid9_o6, laid9_o7]
set_option maxRecDepth 100000 in
set_option maxHeartbeats 4000000 in
theorem laid9 {pb po m pc i : Nat} {p : PutV} {gb : Nat} {u u2 : Value} {w1 w2 : World} (a : Act) (w : World) (Q : Exit → Act → World → Prop) (zz : a.tmps.size = 38)
    (t0 : a.tmps.getD 0 undef = .slice (some ⟨pb, po, none⟩) m pc)
    (t5 : a.tmps.getD 5 undef = u)
    (t6 : a.tmps.getD 6 undef = .int .i64 (i : Int))
    (hp : p.ok) (hi : i < m) (hm : m ≤ 1400000000000) (h0 : w.rangeAt pb (po + 66 * i) p.c) (EB : (Instr.buildSlice 43 1 #[(0, p.v)]).run Try.prog w = .ok (.slice (some ⟨gb, 0, none⟩) 1 1) w1) (EA : (Builtin.append_ #[43, 43] 43 #[u, .slice (some ⟨gb, 0, none⟩) 1 1]).run Try.prog w1 = .ok u2 w2)
    (h : ∀ (a' : Act) (w' : World), w' = w2 → a' = ((((((((a).put (some 29) (u)).put (some 30) (.slice (some ⟨pb, po, none⟩) m pc)).put (some 31) (.int .i64 (i : Int))).put (some 32) (.pointer (some ⟨pb, po + 66 * i, none⟩))).put (some 33) (p.v)).put (some 34) (.slice (some ⟨gb, 0, none⟩) 1 1)).put (some 35) (u2)).put (some 5) (u2) → Q .normal a' w') :
    (Code.region 9 laid9_ops false).wp Try.prog Q a w := by
  refine z0 rfl ?_
  refine zv rfl (exec_move rfl (zi t5 rfl)) ?_
  refine zv rfl (exec_move rfl (zi t0 rfl)) ?_
  refine zv rfl (exec_move rfl (zi t6 rfl)) ?_
  refine zv rfl (exec_indexAt rfl (zg zz rfl) (zg zz rfl) (ix_put hi hm _)) ?_
  refine zv rfl (exec_load rfl (zg zz rfl) (ld_put hp h0)) ?_
  refine zv (v := .slice (some ⟨gb, 0, none⟩) 1 1) rfl (exec_buildSlice rfl (zg zz rfl) EB) ?_
  refine zv (v := u2) rfl (exec_append rfl (zg zz rfl) (zg zz rfl) EA) ?_
  refine zv rfl (exec_assign rfl (zg zz rfl)) ?_
  exact ze rfl (h _ _ (rfl) rfl)
def could6_o0 : Oper := { dst := some 14, op := Op.move (Operand.tmp 0), type := 43, pos := "law.go:110", after := #[], guard := none }
def could6_o1 : Oper := { dst := some 15, op := Op.move (Operand.tmp 4), type := 3, pos := "law.go:110", after := #[], guard := none }
def could6_o2 : Oper := { dst := some 16, op := Op.indexAddr 43 (Operand.tmp 14) (Operand.tmp 15), type := 0, pos := "law.go:110", after := #[{ on := 0, ground := Ground.data }, { on := 1, ground := Ground.data }], guard := none }
def could6_o3 : Oper := { dst := some 17, op := Op.fieldAddr 75 (Operand.tmp 16) 1, type := 0, pos := "law.go:110", after := #[{ on := 2, ground := Ground.data }], guard := none }
def could6_o4 : Oper := { dst := some 18, op := Op.load 32 (Operand.tmp 17), type := 32, pos := "law.go:110", after := #[{ on := 3, ground := Ground.data }], guard := none }
def could6_o5 : Oper := { dst := some 19, op := Op.build 32 #[], type := 32, pos := "law.go:110", after := #[], guard := none }
def could6_o6 : Oper := { dst := some 20, op := Op.binOp BinOp.eql 32 (Operand.tmp 18) (Operand.tmp 19) 32, type := 4, pos := "law.go:110", after := #[{ on := 4, ground := Ground.data }, { on := 5, ground := Ground.data }], guard := none }
def could6_o7 : Oper := { dst := some 6, op := Op.assign (Operand.tmp 20), type := 4, pos := "law.go:110", after := #[{ on := 6, ground := Ground.data }, { on := 0, ground := Ground.phase }, { on := 1, ground := Ground.phase }, { on := 2, ground := Ground.phase }, { on := 3, ground := Ground.phase }, { on := 4, ground := Ground.phase }, { on := 5, ground := Ground.phase }, { on := 6, ground := Ground.phase }], guard := none }
def could6_ops : Array Oper := #[could6_o0, could6_o1, could6_o2, could6_o3, could6_o4, could6_o5, could6_o6, could6_o7]
set_option maxRecDepth 100000 in
set_option maxHeartbeats 4000000 in
theorem could6 {pb po m pc i : Nat} {p : PutV} {r : Bool} (a : Act) (w : World) (Q : Exit → Act → World → Prop) (zz : a.tmps.size = 77)
    (t0 : a.tmps.getD 0 undef = .slice (some ⟨pb, po, none⟩) m pc)
    (t4 : a.tmps.getD 4 undef = .int .i64 (i : Int))
    (hp : p.ok) (hi : i < m) (hm : m ≤ 1400000000000) (h0 : w.rangeAt pb (po + 66 * i) p.c) (hr : decide (p.bh = zId) = r)
    (h : ∀ (a' : Act) (w' : World), w' = w → a' = ((((((((a).put (some 14) (.slice (some ⟨pb, po, none⟩) m pc)).put (some 15) (.int .i64 (i : Int))).put (some 16) (.pointer (some ⟨pb, po + 66 * i, none⟩))).put (some 17) (.pointer (some ⟨pb, po + 66 * i + 33, none⟩))).put (some 18) (p.bh.v)).put (some 19) (zId.v)).put (some 20) (.bool r)).put (some 6) (.bool r) → Q .normal a' w') :
    (Code.region 6 could6_ops false).wp Try.prog Q a w := by
  refine z0 rfl ?_
  refine zv rfl (exec_move rfl (zi t0 rfl)) ?_
  refine zv rfl (exec_move rfl (zi t4 rfl)) ?_
  refine zv rfl (exec_indexAt rfl (zg zz rfl) (zg zz rfl) (ix_put hi hm _)) ?_
  refine zv rfl (exec_fieldAt rfl (zg zz rfl) (fg_75_1 _ _ _)) ?_
  refine zv rfl (exec_load rfl (zg zz rfl) (ld_pbh hp h0)) ?_
  refine zv rfl (exec_build0 rfl (build_id _)) ?_
  refine zv (v := .bool r) rfl (ex_eqlI rfl (zg zz rfl) (zg zz rfl) hp.bh zId_ok hr) ?_
  refine zv rfl (exec_assign rfl (zg zz rfl)) ?_
  exact ze rfl (h _ _ (rfl) rfl)
def could10_o0 : Oper := { dst := some 27, op := Op.move (Operand.tmp 5), type := 4, pos := "law.go:112", after := #[], guard := none }
def could10_o1 : Oper := { dst := some 28, op := Op.move (Operand.tmp 27), type := 4, pos := "law.go:112", after := #[{ on := 0, ground := Ground.data }], guard := none }
def could10_o2 : Oper := { dst := some 29, op := Op.move (Operand.tmp 3), type := 44, pos := "law.go:112", after := #[{ on := 1, ground := Ground.guard }], guard := some (1, false) }
def could10_o3 : Oper := { dst := some 30, op := Op.move (Operand.tmp 7), type := 3, pos := "law.go:112", after := #[{ on := 1, ground := Ground.guard }], guard := some (1, false) }
def could10_o4 : Oper := { dst := some 31, op := Op.indexAddr 44 (Operand.tmp 29) (Operand.tmp 30), type := 0, pos := "law.go:112", after := #[{ on := 2, ground := Ground.data }, { on := 3, ground := Ground.data }, { on := 1, ground := Ground.guard }], guard := some (1, false) }
def could10_o5 : Oper := { dst := some 32, op := Op.load 32 (Operand.tmp 31), type := 32, pos := "law.go:112", after := #[{ on := 4, ground := Ground.data }, { on := 1, ground := Ground.guard }], guard := some (1, false) }
def could10_o6 : Oper := { dst := some 33, op := Op.move (Operand.tmp 0), type := 43, pos := "law.go:112", after := #[{ on := 1, ground := Ground.guard }], guard := some (1, false) }
def could10_o7 : Oper := { dst := some 34, op := Op.move (Operand.tmp 4), type := 3, pos := "law.go:112", after := #[{ on := 1, ground := Ground.guard }], guard := some (1, false) }
def could10_o8 : Oper := { dst := some 35, op := Op.indexAddr 43 (Operand.tmp 33) (Operand.tmp 34), type := 0, pos := "law.go:112", after := #[{ on := 6, ground := Ground.data }, { on := 7, ground := Ground.data }, { on := 1, ground := Ground.guard }], guard := some (1, false) }
def could10_o9 : Oper := { dst := some 36, op := Op.fieldAddr 75 (Operand.tmp 35) 0, type := 0, pos := "law.go:112", after := #[{ on := 8, ground := Ground.data }, { on := 1, ground := Ground.guard }], guard := some (1, false) }
def could10_o10 : Oper := { dst := some 37, op := Op.load 32 (Operand.tmp 36), type := 32, pos := "law.go:112", after := #[{ on := 9, ground := Ground.data }, { on := 1, ground := Ground.guard }], guard := some (1, false) }
def could10_o11 : Oper := { dst := some 38, op := Op.binOp BinOp.eql 32 (Operand.tmp 32) (Operand.tmp 37) 32, type := 4, pos := "law.go:112", after := #[{ on := 5, ground := Ground.data }, { on := 10, ground := Ground.data }, { on := 1, ground := Ground.guard }], guard := some (1, false) }
def could10_o12 : Oper := { dst := some 39, op := Op.pick (Operand.tmp 28) (Operand.const (Value.bool true)) (Operand.tmp 38), type := 4, pos := "law.go:112", after := #[{ on := 1, ground := Ground.data }, { on := 11, ground := Ground.data }], guard := none }
def could10_o13 : Oper := { dst := some 5, op := Op.assign (Operand.tmp 39), type := 4, pos := "law.go:112", after := #[{ on := 12, ground := Ground.data }, { on := 1, ground := Ground.chain }, { on := 0, ground := Ground.phase }, { on := 1, ground := Ground.phase }, { on := 2, ground := Ground.phase }, { on := 3, ground := Ground.phase }, { on := 4, ground := Ground.phase }, { on := 5, ground := Ground.phase }, { on := 6, ground := Ground.phase }, { on := 7, ground := Ground.phase }, { on := 8, ground := Ground.phase }, { on := 9, ground := Ground.phase }, { on := 10, ground := Ground.phase }, { on := 11, ground := Ground.phase }, { on := 12, ground := Ground.phase }], guard := none }
def could10_ops : Array Oper := #[could10_o0, could10_o1, could10_o2, could10_o3, could10_o4, could10_o5, could10_o6, could10_o7, could10_o8, could10_o9, could10_o10, could10_o11, could10_o12, could10_o13]
set_option maxRecDepth 100000 in
set_option maxHeartbeats 4000000 in
theorem could10f {pb po m pc i : Nat} {p : PutV} {tb to n tc k : Nat} {x : IdK} {r : Bool} (a : Act) (w : World) (Q : Exit → Act → World → Prop) (zz : a.tmps.size = 77)
    (t0 : a.tmps.getD 0 undef = .slice (some ⟨pb, po, none⟩) m pc)
    (t3 : a.tmps.getD 3 undef = .slice (some ⟨tb, to, none⟩) n tc)
    (t4 : a.tmps.getD 4 undef = .int .i64 (i : Int))
    (t7 : a.tmps.getD 7 undef = .int .i64 (k : Int))
    (t5 : a.tmps.getD 5 undef = .bool false)
    (hp : p.ok) (hi : i < m) (hm : m ≤ 1400000000000) (hx : x.ok) (hk : k < n) (hn : n ≤ 1400000000000) (h0 : w.rangeAt pb (po + 66 * i) p.c) (h1 : w.rangeAt tb (to + 33 * k) x.c) (hr : decide (x = p.id) = r)
    (h : ∀ (a' : Act) (w' : World), w' = w.drew → a' = ((((((((((((((a).put (some 27) (.bool false)).put (some 28) (.bool false)).put (some 29) (.slice (some ⟨tb, to, none⟩) n tc)).put (some 30) (.int .i64 (k : Int))).put (some 31) (.pointer (some ⟨tb, to + 33 * k, none⟩))).put (some 32) (x.v)).put (some 33) (.slice (some ⟨pb, po, none⟩) m pc)).put (some 34) (.int .i64 (i : Int))).put (some 35) (.pointer (some ⟨pb, po + 66 * i, none⟩))).put (some 36) (.pointer (some ⟨pb, po + 66 * i + 0, none⟩))).put (some 37) (p.id.v)).put (some 38) (.bool r)).put (some 39) (.bool r)).put (some 5) (.bool r) → Q .normal a' w') :
    (Code.region 10 could10_ops true).wp Try.prog Q a w := by
  refine y0 (fun w' => w' = w.drew) (rfl) (fun hHeld => ?_)
  refine yv 0 rfl rfl (fun w1 hw => exec_move rfl (zi t5 rfl)) hHeld ?_
  refine yv 1 rfl rfl (fun w1 hw => exec_move rfl (zg zz rfl)) hHeld ?_
  refine yv 2 rfl (zw zz rfl rfl rfl (zg zz rfl)) (fun w1 hw => exec_move rfl (zi t3 rfl)) hHeld ?_
  refine yv 3 rfl (zw zz rfl rfl rfl (zg zz rfl)) (fun w1 hw => exec_move rfl (zi t7 rfl)) hHeld ?_
  refine yv 4 rfl (zw zz rfl rfl rfl (zg zz rfl)) (fun w1 hw => exec_indexAt rfl (zg zz rfl) (zg zz rfl) (ix_idl hk hn _)) hHeld ?_
  refine yv 5 rfl (zw zz rfl rfl rfl (zg zz rfl)) (fun w1 hw => exec_load rfl (zg zz rfl) (load_id_at hx (hw ▸ h1 : World.rangeAt _ tb (to + 33 * k) x.c))) hHeld ?_
  refine yv 6 rfl (zw zz rfl rfl rfl (zg zz rfl)) (fun w1 hw => exec_move rfl (zi t0 rfl)) hHeld ?_
  refine yv 7 rfl (zw zz rfl rfl rfl (zg zz rfl)) (fun w1 hw => exec_move rfl (zi t4 rfl)) hHeld ?_
  refine yv 8 rfl (zw zz rfl rfl rfl (zg zz rfl)) (fun w1 hw => exec_indexAt rfl (zg zz rfl) (zg zz rfl) (ix_put hi hm _)) hHeld ?_
  refine yv 9 rfl (zw zz rfl rfl rfl (zg zz rfl)) (fun w1 hw => exec_fieldAt rfl (zg zz rfl) (fg_75_0 _ _ _)) hHeld ?_
  refine yv 10 rfl (zw zz rfl rfl rfl (zg zz rfl)) (fun w1 hw => exec_load rfl (zg zz rfl) (ld_pid hp (hw ▸ h0 : World.rangeAt _ pb (po + 66 * i) p.c))) hHeld ?_
  refine yv (v := .bool r) 11 rfl (zw zz rfl rfl rfl (zg zz rfl)) (fun w1 hw => ex_eqlI rfl (zg zz rfl) (zg zz rfl) hx hp.id hr) hHeld ?_
  refine yv 12 rfl rfl (fun w1 hw => exec_pickF rfl (zg zz rfl) (zg zz rfl)) hHeld ?_
  refine yv 13 rfl rfl (fun w1 hw => exec_assign rfl (zg zz rfl)) hHeld ?_
  exact ye rfl (h _ _ (hHeld) rfl)
set_option maxRecDepth 100000 in
set_option maxHeartbeats 4000000 in
theorem could10t {pb po m pc i tb to n tc k : Nat} (a : Act) (w : World) (Q : Exit → Act → World → Prop) (zz : a.tmps.size = 77)
    (t0 : a.tmps.getD 0 undef = .slice (some ⟨pb, po, none⟩) m pc)
    (t3 : a.tmps.getD 3 undef = .slice (some ⟨tb, to, none⟩) n tc)
    (t4 : a.tmps.getD 4 undef = .int .i64 (i : Int))
    (t7 : a.tmps.getD 7 undef = .int .i64 (k : Int))
    (t5 : a.tmps.getD 5 undef = .bool true)
    (h : ∀ (a' : Act) (w' : World), w' = w.drew → a' = ((((((((((((((a).put (some 27) (.bool true)).put (some 28) (.bool true)).put (some 29) (undef)).put (some 30) (undef)).put (some 31) (undef)).put (some 32) (undef)).put (some 33) (undef)).put (some 34) (undef)).put (some 35) (undef)).put (some 36) (undef)).put (some 37) (undef)).put (some 38) (undef)).put (some 39) (.bool true)).put (some 5) (.bool true) → Q .normal a' w') :
    (Code.region 10 could10_ops true).wp Try.prog Q a w := by
  refine y0 (fun w' => w' = w.drew) (rfl) (fun hHeld => ?_)
  refine yv 0 rfl rfl (fun w1 hw => exec_move rfl (zi t5 rfl)) hHeld ?_
  refine yv 1 rfl rfl (fun w1 hw => exec_move rfl (zg zz rfl)) hHeld ?_
  refine yn 2 rfl (zx zz rfl rfl rfl (zg zz rfl)) hHeld ?_
  refine yn 3 rfl (zx zz rfl rfl rfl (zg zz rfl)) hHeld ?_
  refine yn 4 rfl (zx zz rfl rfl rfl (zg zz rfl)) hHeld ?_
  refine yn 5 rfl (zx zz rfl rfl rfl (zg zz rfl)) hHeld ?_
  refine yn 6 rfl (zx zz rfl rfl rfl (zg zz rfl)) hHeld ?_
  refine yn 7 rfl (zx zz rfl rfl rfl (zg zz rfl)) hHeld ?_
  refine yn 8 rfl (zx zz rfl rfl rfl (zg zz rfl)) hHeld ?_
  refine yn 9 rfl (zx zz rfl rfl rfl (zg zz rfl)) hHeld ?_
  refine yn 10 rfl (zx zz rfl rfl rfl (zg zz rfl)) hHeld ?_
  refine yn 11 rfl (zx zz rfl rfl rfl (zg zz rfl)) hHeld ?_
  refine yv 12 rfl rfl (fun w1 hw => exec_pickT rfl (zg zz rfl) rfl) hHeld ?_
  refine yv 13 rfl rfl (fun w1 hw => exec_assign rfl (zg zz rfl)) hHeld ?_
  exact ye rfl (h _ _ (hHeld) rfl)
def could11_o0 : Oper := { dst := some 40, op := Op.move (Operand.tmp 6), type := 4, pos := "law.go:113", after := #[], guard := none }
def could11_o1 : Oper := { dst := some 41, op := Op.move (Operand.tmp 40), type := 4, pos := "law.go:113", after := #[{ on := 0, ground := Ground.data }], guard := none }
def could11_o2 : Oper := { dst := some 42, op := Op.move (Operand.tmp 3), type := 44, pos := "law.go:113", after := #[{ on := 1, ground := Ground.guard }], guard := some (1, false) }
def could11_o3 : Oper := { dst := some 43, op := Op.move (Operand.tmp 7), type := 3, pos := "law.go:113", after := #[{ on := 1, ground := Ground.guard }], guard := some (1, false) }
def could11_o4 : Oper := { dst := some 44, op := Op.indexAddr 44 (Operand.tmp 42) (Operand.tmp 43), type := 0, pos := "law.go:113", after := #[{ on := 2, ground := Ground.data }, { on := 3, ground := Ground.data }, { on := 1, ground := Ground.guard }], guard := some (1, false) }
def could11_o5 : Oper := { dst := some 45, op := Op.load 32 (Operand.tmp 44), type := 32, pos := "law.go:113", after := #[{ on := 4, ground := Ground.data }, { on := 1, ground := Ground.guard }], guard := some (1, false) }
def could11_o6 : Oper := { dst := some 46, op := Op.move (Operand.tmp 0), type := 43, pos := "law.go:113", after := #[{ on := 1, ground := Ground.guard }], guard := some (1, false) }
def could11_o7 : Oper := { dst := some 47, op := Op.move (Operand.tmp 4), type := 3, pos := "law.go:113", after := #[{ on := 1, ground := Ground.guard }], guard := some (1, false) }
def could11_o8 : Oper := { dst := some 48, op := Op.indexAddr 43 (Operand.tmp 46) (Operand.tmp 47), type := 0, pos := "law.go:113", after := #[{ on := 6, ground := Ground.data }, { on := 7, ground := Ground.data }, { on := 1, ground := Ground.guard }], guard := some (1, false) }
def could11_o9 : Oper := { dst := some 49, op := Op.fieldAddr 75 (Operand.tmp 48) 1, type := 0, pos := "law.go:113", after := #[{ on := 8, ground := Ground.data }, { on := 1, ground := Ground.guard }], guard := some (1, false) }
def could11_o10 : Oper := { dst := some 50, op := Op.load 32 (Operand.tmp 49), type := 32, pos := "law.go:113", after := #[{ on := 9, ground := Ground.data }, { on := 1, ground := Ground.guard }], guard := some (1, false) }
def could11_o11 : Oper := { dst := some 51, op := Op.binOp BinOp.eql 32 (Operand.tmp 45) (Operand.tmp 50) 32, type := 4, pos := "law.go:113", after := #[{ on := 5, ground := Ground.data }, { on := 10, ground := Ground.data }, { on := 1, ground := Ground.guard }], guard := some (1, false) }
def could11_o12 : Oper := { dst := some 52, op := Op.pick (Operand.tmp 41) (Operand.const (Value.bool true)) (Operand.tmp 51), type := 4, pos := "law.go:113", after := #[{ on := 1, ground := Ground.data }, { on := 11, ground := Ground.data }], guard := none }
def could11_o13 : Oper := { dst := some 6, op := Op.assign (Operand.tmp 52), type := 4, pos := "law.go:113", after := #[{ on := 12, ground := Ground.data }, { on := 1, ground := Ground.chain }, { on := 0, ground := Ground.phase }, { on := 1, ground := Ground.phase }, { on := 2, ground := Ground.phase }, { on := 3, ground := Ground.phase }, { on := 4, ground := Ground.phase }, { on := 5, ground := Ground.phase }, { on := 6, ground := Ground.phase }, { on := 7, ground := Ground.phase }, { on := 8, ground := Ground.phase }, { on := 9, ground := Ground.phase }, { on := 10, ground := Ground.phase }, { on := 11, ground := Ground.phase }, { on := 12, ground := Ground.phase }], guard := none }
def could11_ops : Array Oper := #[could11_o0, could11_o1, could11_o2, could11_o3, could11_o4, could11_o5, could11_o6, could11_o7, could11_o8, could11_o9, could11_o10, could11_o11, could11_o12, could11_o13]
set_option maxRecDepth 100000 in
set_option maxHeartbeats 4000000 in
theorem could11f {pb po m pc i : Nat} {p : PutV} {tb to n tc k : Nat} {x : IdK} {r : Bool} (a : Act) (w : World) (Q : Exit → Act → World → Prop) (zz : a.tmps.size = 77)
    (t0 : a.tmps.getD 0 undef = .slice (some ⟨pb, po, none⟩) m pc)
    (t3 : a.tmps.getD 3 undef = .slice (some ⟨tb, to, none⟩) n tc)
    (t4 : a.tmps.getD 4 undef = .int .i64 (i : Int))
    (t7 : a.tmps.getD 7 undef = .int .i64 (k : Int))
    (t6 : a.tmps.getD 6 undef = .bool false)
    (hp : p.ok) (hi : i < m) (hm : m ≤ 1400000000000) (hx : x.ok) (hk : k < n) (hn : n ≤ 1400000000000) (h0 : w.rangeAt pb (po + 66 * i) p.c) (h1 : w.rangeAt tb (to + 33 * k) x.c) (hr : decide (x = p.bh) = r)
    (h : ∀ (a' : Act) (w' : World), w' = w.drew → a' = ((((((((((((((a).put (some 40) (.bool false)).put (some 41) (.bool false)).put (some 42) (.slice (some ⟨tb, to, none⟩) n tc)).put (some 43) (.int .i64 (k : Int))).put (some 44) (.pointer (some ⟨tb, to + 33 * k, none⟩))).put (some 45) (x.v)).put (some 46) (.slice (some ⟨pb, po, none⟩) m pc)).put (some 47) (.int .i64 (i : Int))).put (some 48) (.pointer (some ⟨pb, po + 66 * i, none⟩))).put (some 49) (.pointer (some ⟨pb, po + 66 * i + 33, none⟩))).put (some 50) (p.bh.v)).put (some 51) (.bool r)).put (some 52) (.bool r)).put (some 6) (.bool r) → Q .normal a' w') :
    (Code.region 11 could11_ops true).wp Try.prog Q a w := by
  refine y0 (fun w' => w' = w.drew) (rfl) (fun hHeld => ?_)
  refine yv 0 rfl rfl (fun w1 hw => exec_move rfl (zi t6 rfl)) hHeld ?_
  refine yv 1 rfl rfl (fun w1 hw => exec_move rfl (zg zz rfl)) hHeld ?_
  refine yv 2 rfl (zw zz rfl rfl rfl (zg zz rfl)) (fun w1 hw => exec_move rfl (zi t3 rfl)) hHeld ?_
  refine yv 3 rfl (zw zz rfl rfl rfl (zg zz rfl)) (fun w1 hw => exec_move rfl (zi t7 rfl)) hHeld ?_
  refine yv 4 rfl (zw zz rfl rfl rfl (zg zz rfl)) (fun w1 hw => exec_indexAt rfl (zg zz rfl) (zg zz rfl) (ix_idl hk hn _)) hHeld ?_
  refine yv 5 rfl (zw zz rfl rfl rfl (zg zz rfl)) (fun w1 hw => exec_load rfl (zg zz rfl) (load_id_at hx (hw ▸ h1 : World.rangeAt _ tb (to + 33 * k) x.c))) hHeld ?_
  refine yv 6 rfl (zw zz rfl rfl rfl (zg zz rfl)) (fun w1 hw => exec_move rfl (zi t0 rfl)) hHeld ?_
  refine yv 7 rfl (zw zz rfl rfl rfl (zg zz rfl)) (fun w1 hw => exec_move rfl (zi t4 rfl)) hHeld ?_
  refine yv 8 rfl (zw zz rfl rfl rfl (zg zz rfl)) (fun w1 hw => exec_indexAt rfl (zg zz rfl) (zg zz rfl) (ix_put hi hm _)) hHeld ?_
  refine yv 9 rfl (zw zz rfl rfl rfl (zg zz rfl)) (fun w1 hw => exec_fieldAt rfl (zg zz rfl) (fg_75_1 _ _ _)) hHeld ?_
  refine yv 10 rfl (zw zz rfl rfl rfl (zg zz rfl)) (fun w1 hw => exec_load rfl (zg zz rfl) (ld_pbh hp (hw ▸ h0 : World.rangeAt _ pb (po + 66 * i) p.c))) hHeld ?_
  refine yv (v := .bool r) 11 rfl (zw zz rfl rfl rfl (zg zz rfl)) (fun w1 hw => ex_eqlI rfl (zg zz rfl) (zg zz rfl) hx hp.bh hr) hHeld ?_
  refine yv 12 rfl rfl (fun w1 hw => exec_pickF rfl (zg zz rfl) (zg zz rfl)) hHeld ?_
  refine yv 13 rfl rfl (fun w1 hw => exec_assign rfl (zg zz rfl)) hHeld ?_
  exact ye rfl (h _ _ (hHeld) rfl)
set_option maxRecDepth 100000 in
set_option maxHeartbeats 4000000 in
theorem could11t {pb po m pc i tb to n tc k : Nat} (a : Act) (w : World) (Q : Exit → Act → World → Prop) (zz : a.tmps.size = 77)
    (t0 : a.tmps.getD 0 undef = .slice (some ⟨pb, po, none⟩) m pc)
    (t3 : a.tmps.getD 3 undef = .slice (some ⟨tb, to, none⟩) n tc)
    (t4 : a.tmps.getD 4 undef = .int .i64 (i : Int))
    (t7 : a.tmps.getD 7 undef = .int .i64 (k : Int))
    (t6 : a.tmps.getD 6 undef = .bool true)
    (h : ∀ (a' : Act) (w' : World), w' = w.drew → a' = ((((((((((((((a).put (some 40) (.bool true)).put (some 41) (.bool true)).put (some 42) (undef)).put (some 43) (undef)).put (some 44) (undef)).put (some 45) (undef)).put (some 46) (undef)).put (some 47) (undef)).put (some 48) (undef)).put (some 49) (undef)).put (some 50) (undef)).put (some 51) (undef)).put (some 52) (.bool true)).put (some 6) (.bool true) → Q .normal a' w') :
    (Code.region 11 could11_ops true).wp Try.prog Q a w := by
  refine y0 (fun w' => w' = w.drew) (rfl) (fun hHeld => ?_)
  refine yv 0 rfl rfl (fun w1 hw => exec_move rfl (zi t6 rfl)) hHeld ?_
  refine yv 1 rfl rfl (fun w1 hw => exec_move rfl (zg zz rfl)) hHeld ?_
  refine yn 2 rfl (zx zz rfl rfl rfl (zg zz rfl)) hHeld ?_
  refine yn 3 rfl (zx zz rfl rfl rfl (zg zz rfl)) hHeld ?_
  refine yn 4 rfl (zx zz rfl rfl rfl (zg zz rfl)) hHeld ?_
  refine yn 5 rfl (zx zz rfl rfl rfl (zg zz rfl)) hHeld ?_
  refine yn 6 rfl (zx zz rfl rfl rfl (zg zz rfl)) hHeld ?_
  refine yn 7 rfl (zx zz rfl rfl rfl (zg zz rfl)) hHeld ?_
  refine yn 8 rfl (zx zz rfl rfl rfl (zg zz rfl)) hHeld ?_
  refine yn 9 rfl (zx zz rfl rfl rfl (zg zz rfl)) hHeld ?_
  refine yn 10 rfl (zx zz rfl rfl rfl (zg zz rfl)) hHeld ?_
  refine yn 11 rfl (zx zz rfl rfl rfl (zg zz rfl)) hHeld ?_
  refine yv 12 rfl rfl (fun w1 hw => exec_pickT rfl (zg zz rfl) rfl) hHeld ?_
  refine yv 13 rfl rfl (fun w1 hw => exec_assign rfl (zg zz rfl)) hHeld ?_
  exact ye rfl (h _ _ (hHeld) rfl)
def could12_o0 : Oper := { dst := some 53, op := Op.move (Operand.tmp 5), type := 4, pos := "law.go:115", after := #[], guard := none }
def could12_o1 : Oper := { dst := some 54, op := Op.unOp UnOp.not 4 (Operand.tmp 53), type := 4, pos := "law.go:115", after := #[{ on := 0, ground := Ground.data }], guard := none }
def could12_o2 : Oper := { dst := some 55, op := Op.move (Operand.tmp 54), type := 4, pos := "law.go:115", after := #[{ on := 1, ground := Ground.data }], guard := none }
def could12_o3 : Oper := { dst := some 56, op := Op.move (Operand.tmp 6), type := 4, pos := "law.go:115", after := #[{ on := 2, ground := Ground.guard }], guard := some (2, true) }
def could12_o4 : Oper := { dst := some 57, op := Op.pick (Operand.tmp 55) (Operand.tmp 56) (Operand.const (Value.bool false)), type := 4, pos := "law.go:115", after := #[{ on := 2, ground := Ground.data }, { on := 3, ground := Ground.data }], guard := none }
def could12_o5 : Oper := { dst := some 58, op := Op.move (Operand.tmp 57), type := 4, pos := "law.go:115", after := #[{ on := 4, ground := Ground.data }, { on := 2, ground := Ground.chain }], guard := none }
def could12_o6 : Oper := { dst := some 59, op := Op.move (Operand.tmp 0), type := 43, pos := "law.go:115", after := #[{ on := 5, ground := Ground.guard }], guard := some (5, true) }
def could12_o7 : Oper := { dst := some 60, op := Op.move (Operand.tmp 4), type := 3, pos := "law.go:115", after := #[{ on := 5, ground := Ground.guard }], guard := some (5, true) }
def could12_o8 : Oper := { dst := some 61, op := Op.indexAddr 43 (Operand.tmp 59) (Operand.tmp 60), type := 0, pos := "law.go:115", after := #[{ on := 6, ground := Ground.data }, { on := 7, ground := Ground.data }, { on := 5, ground := Ground.guard }], guard := some (5, true) }
def could12_o9 : Oper := { dst := some 62, op := Op.fieldAddr 75 (Operand.tmp 61) 0, type := 0, pos := "law.go:115", after := #[{ on := 8, ground := Ground.data }, { on := 5, ground := Ground.guard }], guard := some (5, true) }
def could12_o10 : Oper := { dst := some 63, op := Op.fieldAddr 32 (Operand.tmp 62) 1, type := 0, pos := "law.go:115", after := #[{ on := 9, ground := Ground.data }, { on := 5, ground := Ground.guard }], guard := some (5, true) }
def could12_o11 : Oper := { dst := some 64, op := Op.load 3 (Operand.tmp 63), type := 3, pos := "law.go:115", after := #[{ on := 10, ground := Ground.data }, { on := 5, ground := Ground.guard }], guard := some (5, true) }
def could12_o12 : Oper := { dst := some 65, op := Op.binOp BinOp.gtr 3 (Operand.tmp 64) (Operand.const (Value.int IntKind.i64 0)) 3, type := 4, pos := "law.go:115", after := #[{ on := 11, ground := Ground.data }, { on := 5, ground := Ground.guard }], guard := some (5, true) }
def could12_o13 : Oper := { dst := some 66, op := Op.pick (Operand.tmp 58) (Operand.tmp 65) (Operand.const (Value.bool false)), type := 4, pos := "law.go:115", after := #[{ on := 5, ground := Ground.data }, { on := 12, ground := Ground.data }], guard := none }
def could12_ops : Array Oper := #[could12_o0, could12_o1, could12_o2, could12_o3, could12_o4, could12_o5, could12_o6, could12_o7, could12_o8, could12_o9, could12_o10, could12_o11, could12_o12, could12_o13]
set_option maxRecDepth 100000 in
set_option maxHeartbeats 4000000 in
theorem could12a {pb po m pc i : Nat} {p : PutV} {r : Bool} (a : Act) (w : World) (Q : Exit → Act → World → Prop) (zz : a.tmps.size = 77)
    (t0 : a.tmps.getD 0 undef = .slice (some ⟨pb, po, none⟩) m pc)
    (t4 : a.tmps.getD 4 undef = .int .i64 (i : Int))
    (t5 : a.tmps.getD 5 undef = .bool false)
    (t6 : a.tmps.getD 6 undef = .bool true)
    (hp : p.ok) (hi : i < m) (hm : m ≤ 1400000000000) (h0 : w.rangeAt pb (po + 66 * i) p.c) (hr : decide (p.id.n > 0) = r)
    (h : ∀ (a' : Act) (w' : World), w' = w → a' = ((((((((((((((a).put (some 53) (.bool false)).put (some 54) (.bool true)).put (some 55) (.bool true)).put (some 56) (.bool true)).put (some 57) (.bool true)).put (some 58) (.bool true)).put (some 59) (.slice (some ⟨pb, po, none⟩) m pc)).put (some 60) (.int .i64 (i : Int))).put (some 61) (.pointer (some ⟨pb, po + 66 * i, none⟩))).put (some 62) (.pointer (some ⟨pb, po + 66 * i + 0, none⟩))).put (some 63) (.pointer (some ⟨pb, po + 66 * i + 0 + 32, none⟩))).put (some 64) (.int .i64 p.id.n)).put (some 65) (.bool r)).put (some 66) (.bool r) → Q .normal a' w') :
    (Code.region 12 could12_ops false).wp Try.prog Q a w := by
  refine z0 rfl ?_
  refine zv rfl (exec_move rfl (zi t5 rfl)) ?_
  refine zv rfl (exec_not rfl (zg zz rfl)) ?_
  refine zv rfl (exec_move rfl (zg zz rfl)) ?_
  refine zv (zw zz rfl rfl rfl (zg zz rfl)) (exec_move rfl (zi t6 rfl)) ?_
  refine zv rfl (exec_pickT rfl (zg zz rfl) (zg zz rfl)) ?_
  refine zv rfl (exec_move rfl (zg zz rfl)) ?_
  refine zv (zw zz rfl rfl rfl (zg zz rfl)) (exec_move rfl (zi t0 rfl)) ?_
  refine zv (zw zz rfl rfl rfl (zg zz rfl)) (exec_move rfl (zi t4 rfl)) ?_
  refine zv (zw zz rfl rfl rfl (zg zz rfl)) (exec_indexAt rfl (zg zz rfl) (zg zz rfl) (ix_put hi hm _)) ?_
  refine zv (zw zz rfl rfl rfl (zg zz rfl)) (exec_fieldAt rfl (zg zz rfl) (fg_75_0 _ _ _)) ?_
  refine zv (zw zz rfl rfl rfl (zg zz rfl)) (exec_fieldAt rfl (zg zz rfl) (fg_32_1 _ _ _)) ?_
  refine zv (zw zz rfl rfl rfl (zg zz rfl)) (exec_load rfl (zg zz rfl) (ld_pn hp h0)) ?_
  refine zv (v := .bool r) (zw zz rfl rfl rfl (zg zz rfl)) (ex_gtr rfl (zg zz rfl) rfl hr) ?_
  refine zv rfl (exec_pickT rfl (zg zz rfl) (zg zz rfl)) ?_
  exact ze rfl (h _ _ (rfl) rfl)
set_option maxRecDepth 100000 in
set_option maxHeartbeats 4000000 in
theorem could12b {pb po m pc i : Nat} (a : Act) (w : World) (Q : Exit → Act → World → Prop) (zz : a.tmps.size = 77)
    (t0 : a.tmps.getD 0 undef = .slice (some ⟨pb, po, none⟩) m pc)
    (t4 : a.tmps.getD 4 undef = .int .i64 (i : Int))
    (t5 : a.tmps.getD 5 undef = .bool false)
    (t6 : a.tmps.getD 6 undef = .bool false)
    (h : ∀ (a' : Act) (w' : World), w' = w → a' = ((((((((((((((a).put (some 53) (.bool false)).put (some 54) (.bool true)).put (some 55) (.bool true)).put (some 56) (.bool false)).put (some 57) (.bool false)).put (some 58) (.bool false)).put (some 59) (undef)).put (some 60) (undef)).put (some 61) (undef)).put (some 62) (undef)).put (some 63) (undef)).put (some 64) (undef)).put (some 65) (undef)).put (some 66) (.bool false) → Q .normal a' w') :
    (Code.region 12 could12_ops false).wp Try.prog Q a w := by
  refine z0 rfl ?_
  refine zv rfl (exec_move rfl (zi t5 rfl)) ?_
  refine zv rfl (exec_not rfl (zg zz rfl)) ?_
  refine zv rfl (exec_move rfl (zg zz rfl)) ?_
  refine zv (zw zz rfl rfl rfl (zg zz rfl)) (exec_move rfl (zi t6 rfl)) ?_
  refine zv rfl (exec_pickT rfl (zg zz rfl) (zg zz rfl)) ?_
  refine zv rfl (exec_move rfl (zg zz rfl)) ?_
  refine zn (zx zz rfl rfl rfl (zg zz rfl)) ?_
  refine zn (zx zz rfl rfl rfl (zg zz rfl)) ?_
  refine zn (zx zz rfl rfl rfl (zg zz rfl)) ?_
  refine zn (zx zz rfl rfl rfl (zg zz rfl)) ?_
  refine zn (zx zz rfl rfl rfl (zg zz rfl)) ?_
  refine zn (zx zz rfl rfl rfl (zg zz rfl)) ?_
  refine zn (zx zz rfl rfl rfl (zg zz rfl)) ?_
  refine zv rfl (exec_pickF rfl (zg zz rfl) rfl) ?_
  exact ze rfl (h _ _ (rfl) rfl)
set_option maxRecDepth 100000 in
set_option maxHeartbeats 4000000 in
theorem could12c {pb po m pc i : Nat} {b : Bool} (a : Act) (w : World) (Q : Exit → Act → World → Prop) (zz : a.tmps.size = 77)
    (t0 : a.tmps.getD 0 undef = .slice (some ⟨pb, po, none⟩) m pc)
    (t4 : a.tmps.getD 4 undef = .int .i64 (i : Int))
    (t5 : a.tmps.getD 5 undef = .bool true)
    (t6 : a.tmps.getD 6 undef = .bool b)
    (h : ∀ (a' : Act) (w' : World), w' = w → a' = ((((((((((((((a).put (some 53) (.bool true)).put (some 54) (.bool false)).put (some 55) (.bool false)).put (some 56) (undef)).put (some 57) (.bool false)).put (some 58) (.bool false)).put (some 59) (undef)).put (some 60) (undef)).put (some 61) (undef)).put (some 62) (undef)).put (some 63) (undef)).put (some 64) (undef)).put (some 65) (undef)).put (some 66) (.bool false) → Q .normal a' w') :
    (Code.region 12 could12_ops false).wp Try.prog Q a w := by
  refine z0 rfl ?_
  refine zv rfl (exec_move rfl (zi t5 rfl)) ?_
  refine zv rfl (exec_not rfl (zg zz rfl)) ?_
  refine zv rfl (exec_move rfl (zg zz rfl)) ?_
  refine zn (zx zz rfl rfl rfl (zg zz rfl)) ?_
  refine zv rfl (exec_pickF rfl (zg zz rfl) rfl) ?_
  refine zv rfl (exec_move rfl (zg zz rfl)) ?_
  refine zn (zx zz rfl rfl rfl (zg zz rfl)) ?_
  refine zn (zx zz rfl rfl rfl (zg zz rfl)) ?_
  refine zn (zx zz rfl rfl rfl (zg zz rfl)) ?_
  refine zn (zx zz rfl rfl rfl (zg zz rfl)) ?_
  refine zn (zx zz rfl rfl rfl (zg zz rfl)) ?_
  refine zn (zx zz rfl rfl rfl (zg zz rfl)) ?_
  refine zn (zx zz rfl rfl rfl (zg zz rfl)) ?_
  refine zv rfl (exec_pickF rfl (zg zz rfl) rfl) ?_
  exact ze rfl (h _ _ (rfl) rfl)
def could13_o0 : Oper := { dst := some 67, op := Op.move (Operand.tmp 3), type := 44, pos := "law.go:116", after := #[], guard := none }
def could13_o1 : Oper := { dst := some 68, op := Op.move (Operand.tmp 0), type := 43, pos := "law.go:116", after := #[], guard := none }
def could13_o2 : Oper := { dst := some 69, op := Op.move (Operand.tmp 4), type := 3, pos := "law.go:116", after := #[], guard := none }
def could13_o3 : Oper := { dst := some 70, op := Op.indexAddr 43 (Operand.tmp 68) (Operand.tmp 69), type := 0, pos := "law.go:116", after := #[{ on := 1, ground := Ground.data }, { on := 2, ground := Ground.data }], guard := none }
def could13_o4 : Oper := { dst := some 71, op := Op.fieldAddr 75 (Operand.tmp 70) 0, type := 0, pos := "law.go:116", after := #[{ on := 3, ground := Ground.data }], guard := none }
def could13_o5 : Oper := { dst := some 72, op := Op.load 32 (Operand.tmp 71), type := 32, pos := "law.go:116", after := #[{ on := 4, ground := Ground.data }], guard := none }
def could13_o6 : Oper := { dst := some 73, op := Op.buildSlice 44 1 #[(0, Operand.tmp 72)], type := 44, pos := "law.go:116", after := #[{ on := 5, ground := Ground.data }], guard := none }
def could13_o7 : Oper := { dst := some 74, op := Op.call { callee := Callee.builtin Builtin.append, args := #[Operand.tmp 67, Operand.tmp 73], argTypes := #[44, 44] }, type := 44, pos := "law.go:116", after := #[{ on := 0, ground := Ground.data }, { on := 6, ground := Ground.data }], guard := none }
def could13_o8 : Oper := { dst := some 3, op := Op.assign (Operand.tmp 74), type := 44, pos := "law.go:116", after := #[{ on := 7, ground := Ground.data }, { on := 7, ground := Ground.chain }, { on := 0, ground := Ground.phase }, { on := 1, ground := Ground.phase }, { on := 2, ground := Ground.phase }, { on := 3, ground := Ground.phase }, { on := 4, ground := Ground.phase }, { on := 5, ground := Ground.phase }, { on := 6, ground := Ground.phase }, { on := 7, ground := Ground.phase }], guard := none }
def could13_ops : Array Oper := #[could13_o0, could13_o1, could13_o2, could13_o3, could13_o4, could13_o5, could13_o6, could13_o7, could13_o8]
set_option maxRecDepth 100000 in
set_option maxHeartbeats 4000000 in
theorem could13 {pb po m pc i : Nat} {p : PutV} {gb : Nat} {u u2 : Value} {w1 w2 : World} (a : Act) (w : World) (Q : Exit → Act → World → Prop) (zz : a.tmps.size = 77)
    (t0 : a.tmps.getD 0 undef = .slice (some ⟨pb, po, none⟩) m pc)
    (t3 : a.tmps.getD 3 undef = u)
    (t4 : a.tmps.getD 4 undef = .int .i64 (i : Int))
    (hp : p.ok) (hi : i < m) (hm : m ≤ 1400000000000) (h0 : w.rangeAt pb (po + 66 * i) p.c) (EB : (Instr.buildSlice 44 1 #[(0, p.id.v)]).run Try.prog w = .ok (.slice (some ⟨gb, 0, none⟩) 1 1) w1) (EA : (Builtin.append_ #[44, 44] 44 #[u, .slice (some ⟨gb, 0, none⟩) 1 1]).run Try.prog w1 = .ok u2 w2)
    (h : ∀ (a' : Act) (w' : World), w' = w2 → a' = (((((((((a).put (some 67) (u)).put (some 68) (.slice (some ⟨pb, po, none⟩) m pc)).put (some 69) (.int .i64 (i : Int))).put (some 70) (.pointer (some ⟨pb, po + 66 * i, none⟩))).put (some 71) (.pointer (some ⟨pb, po + 66 * i + 0, none⟩))).put (some 72) (p.id.v)).put (some 73) (.slice (some ⟨gb, 0, none⟩) 1 1)).put (some 74) (u2)).put (some 3) (u2) → Q .normal a' w') :
    (Code.region 13 could13_ops false).wp Try.prog Q a w := by
  refine z0 rfl ?_
  refine zv rfl (exec_move rfl (zi t3 rfl)) ?_
  refine zv rfl (exec_move rfl (zi t0 rfl)) ?_
  refine zv rfl (exec_move rfl (zi t4 rfl)) ?_
  refine zv rfl (exec_indexAt rfl (zg zz rfl) (zg zz rfl) (ix_put hi hm _)) ?_
  refine zv rfl (exec_fieldAt rfl (zg zz rfl) (fg_75_0 _ _ _)) ?_
  refine zv rfl (exec_load rfl (zg zz rfl) (ld_pid hp h0)) ?_
  refine zv (v := .slice (some ⟨gb, 0, none⟩) 1 1) rfl (exec_buildSlice rfl (zg zz rfl) EB) ?_
  refine zv (v := u2) rfl (exec_append rfl (zg zz rfl) (zg zz rfl) EA) ?_
  refine zv rfl (exec_assign rfl (zg zz rfl)) ?_
  exact ze rfl (h _ _ (rfl) rfl)
end Go.Proofs.Ytlejbdepoemcjaa

namespace Go.Proofs.Ytlejbdepoemcjaa
open Go.RowKit Sq
set_option linter.unusedVariables false
set_option linter.unusedSimpArgs false

/-- One put of a row of them: the elements, and those that were put. -/
def layS (st : List Elt × List PutV) (p : PutV) : List Elt × List PutV := if insC st.1 p.id p.bh = 0 then (insR st.1 p.id p.bh, st.2 ++ [p]) else st
def laidP (l : List PutV) : List Elt × List PutV := l.foldl layS ([], [])
theorem laidP_snoc (l : List PutV) (p : PutV) : laidP (l ++ [p]) = layS (laidP l) p := by simp [laidP]
theorem snoc_ind {α : Type} {P : List α → Prop} (h0 : P []) (hs : ∀ l x, P l → P (l ++ [x])) (l : List α) : P l := by
  have : ∀ n (l : List α), l.length = n → P l := by
    intro n
    induction n with
    | zero => intro l h; rw [List.eq_nil_of_length_eq_zero h]; exact h0
    | succ n ih =>
      intro l h
      have hne : l ≠ [] := by intro q; rw [q] at h; cases h
      rw [← List.dropLast_concat_getLast hne]
      exact hs _ _ (ih _ (by simp; omega))
  exact this _ l rfl
theorem laidP_len (l : List PutV) : (laidP l).1.length ≤ l.length ∧ (laidP l).2.length ≤ l.length := by
  refine snoc_ind (P := fun l => (laidP l).1.length ≤ l.length ∧ (laidP l).2.length ≤ l.length) (by simp [laidP]) (fun l p ih => ?_) l
  rw [laidP_snoc]
  unfold layS
  split
  · next h =>
    unfold insR
    rw [if_pos h]
    have := (putE_perm (laidP l).1 p.bh ⟨p.id, p.bh, true⟩).length_eq
    simp at this ⊢
    omega
  · simp; omega
theorem laidP_ok (l : List PutV) (ok : ∀ x ∈ l, x.ok) : ∀ x ∈ (laidP l).2, x.ok := by
  revert ok
  refine snoc_ind (P := fun l => (∀ x ∈ l, x.ok) → ∀ x ∈ (laidP l).2, x.ok) (by simp [laidP]) (fun l p ih ok => ?_) l
  rw [laidP_snoc]
  unfold layS
  have ih := ih (fun x hx => ok x (by simp [hx]))
  split
  · intro x hx
    rcases List.mem_append.1 hx with q | q
    · exact ih x q
    · rw [List.mem_singleton.1 q]; exact ok p (by simp)
  · exact ih
theorem OwnP.cells {w : World} {base : Nat} {v : Value} {l : List PutV} (h : OwnP w base v l) {k : Nat} (hk : v.ownBlock = some k) : base ≤ k ∧ k < w.heap.size := by
  rcases h.2 with ⟨rfl, _⟩ | ⟨g, cap, cur, rfl, hb, hg, _⟩
  · cases hk
  · simp only [Value.ownBlock, Option.some.injEq] at hk
    subst hk
    exact ⟨hb, (Array.getElem?_eq_some_iff.1 hg).1⟩
theorem Tch.belowS {w w' : World} {s : Sx} {B : Nat} (h : Tch (fun j => j ∈ s.bl) w w') (hB : B ≤ w.heap.size) (hs : ∀ j ∈ s.bl, B ≤ j) : Below B w w' := h.below hB hs
theorem Nxt.bl {s s' : Sx} {w w' : World} {E' : List Elt} (h : Nxt s w s' E' w') : ∀ j ∈ s'.bl, j ∈ s.bl ∨ w.heap.size ≤ j := fun j hj => by
  simp only [Sx.bl, List.mem_cons, List.not_mem_nil, or_false, h.sb, h.mb] at hj ⊢
  rcases hj with q | q | q
  · exact .inl (.inl q)
  · exact .inl (.inr (.inl q))
  · rcases h.own with e | e
    · exact .inl (.inr (.inr (q.trans e)))
    · exact .inr (by omega)
/-- What holds between two puts. -/
structure LyI (w : World) (sb : Nat) (st : List Elt × List PutV) (v : Value) (W : World) : Prop where
  sq : ∃ s : Sx, s.sb = sb ∧ SeqAt W s st.1 ∧ (∀ j ∈ s.bl, w.heap.size ≤ j) ∧ ∀ k, v.ownBlock = some k → k ∉ s.bl
  own : OwnP W w.heap.size v st.2
  bel : Below w.heap.size w W
theorem LyI.drew {w W : World} {sb : Nat} {st : List Elt × List PutV} {v : Value} (h : LyI w sb st v W) : LyI w sb st v W.drew := by
  obtain ⟨⟨s, a, b, c, d⟩, o, b'⟩ := h
  exact ⟨⟨s, a, b.drew, c, d⟩, o.keep (fun _ _ => rfl), b'.drew⟩
/-- Insert: what it leaves. -/
theorem LyI.ins {w W : World} {sb : Nat} {st : List Elt × List PutV} {v : Value} (h : LyI w sb st v W) {p : PutV} (hp : p.ok) (hl : st.1.length + 2 ≤ 1400000000000) : Calls Try.prog 10 #[.pointer (some ⟨sb, 0, none⟩), p.id.v, p.bh.v] W fun e w' => e = .returned (.int .i64 (insC st.1 p.id p.bh : Int)) ∧ LyI w sb (insR st.1 p.id p.bh, st.2) v w' := by
  obtain ⟨⟨s, rfl, b, c, d⟩, o, b'⟩ := h
  refine (insert_any b hp.id hp.bh hl).mono ?_
  rintro e w' ⟨rfl, s', nx⟩
  have bb : Below w.heap.size W w' := nx.tch.belowS b'.size c
  refine ⟨rfl, ⟨s', nx.sb, nx.at', fun j hj => ?_, fun k hk hj => ?_⟩, o.keep (fun k hk => nx.tch.block k (o.cells hk).2 (d k hk)), b'.trans bb⟩
  · rcases nx.bl j hj with q | q
    · exact c j q
    · exact Nat.le_trans b'.size q
  · rcases nx.bl k hj with q | q
    · exact d k hk q
    · have := (o.cells hk).2; omega
/-- And it is noted. -/
theorem LyI.note {w W : World} {sb : Nat} {E : List Elt} {D : List PutV} {v : Value} (h : LyI w sb (E, D) v W) {p : PutV} (hp : p.ok) (hD : ∀ x ∈ D, x.ok) (hl : D.length + 1 ≤ 1400000000000) : ∃ v' w1 w2, (Instr.buildSlice 43 1 #[(0, p.v)]).run Try.prog W = .ok (.slice (some ⟨W.heap.size, 0, none⟩) 1 1) w1 ∧ (Builtin.append_ #[43, 43] 43 #[v, .slice (some ⟨W.heap.size, 0, none⟩) 1 1]).run Try.prog w1 = .ok v' w2 ∧ LyI w sb (E, D ++ [p]) v' w2 := by
  obtain ⟨⟨s, rfl, b, c, d⟩, o, b'⟩ := h
  have eb := run_bsP p hp W
  have b1 : Below W.heap.size W (W.alloc (.cells p.c.toArray 75)) := (Below.refl _ _).alloc (Nat.le_refl _) _
  have zW : (W.alloc (.cells p.c.toArray 75)).heap.size = W.heap.size + 1 := by simp
  obtain ⟨v', w2, ea, o2, g2, ow⟩ := run_appP (W.alloc (.cells p.c.toArray 75)) w.heap.size v D (some ⟨W.heap.size, 0, none⟩) [p] 1 (o.below b1) (puts_lit W p _) (by simp [hp]) (by simp; omega) (by rw [zW]; have := b'.size; omega)
  have ob := fun k hk => (o.cells (k := k) hk)
  refine ⟨v', _, w2, eb, ea, ⟨s, rfl, ?_, c, fun k hk => ?_⟩, o2, ?_⟩
  · exact (b.below b1).keep (fun j hj => g2.block j (by have := b.lt j hj; omega) (fun e => d j e.symm hj))
  · rcases ow with e | e
    · rw [e] at hk; exact d k hk
    · rw [e] at hk
      simp only [Option.some.injEq] at hk
      intro hj
      have := b.lt k hj
      omega
  · exact b'.trans ((b1.mono b'.size).trans ⟨g2.os, g2.tape, g2.output, g2.size, fun j hj => g2.block j (by have := b'.size; omega) (fun e => by have := (ob j e.symm).1; omega)⟩)
theorem PutsAt.get {w : World} {a : Option Addr} {l : List PutV} (h : PutsAt w a l) {i : Nat} (hi : i < l.length) : ∃ b o, a = some ⟨b, o, none⟩ ∧ b < w.heap.size ∧ w.rangeAt b (o + 66 * i) (l[i]).c := by
  rcases h with rfl | ⟨b, o, e, hl, hr⟩
  · simp at hi
  · exact ⟨b, o, e, hl, hr i l[i] (List.getElem?_eq_getElem hi)⟩
set_option maxRecDepth 100000 in
set_option maxHeartbeats 4000000 in
theorem laid_any (a : Option Addr) (c : Nat) (l : List PutV) (w : World) (hP : PutsAt w a l) (ok : ∀ x ∈ l, x.ok) (hl : l.length ≤ 1048576) : Calls Try.prog 20 #[.slice a l.length c] w fun e w' => ∃ s v, e = .returned (.tuple #[.pointer (some ⟨s, 0, none⟩), v]) ∧ LyI w s (laidP l) v w' := by
  obtain ⟨n, hn⟩ : ∃ n, l.length = n := ⟨_, rfl⟩
  have HN := hidMk hn
  have HL := hidMk hl
  have HNW := hidMk (new_any w)
  rw [hn]
  clear hn hl
  go_enter Try.func20, Try.ntmps20
  go_wp2_with (first
    | (go_at_call 7; refine HNW.out.mono ?_; rintro e w1 ⟨s0, rfl, h1, c1, b1⟩; clear HNW)
    | fail)
  have st0 : LyI w s0.sb (laidP (l.take 0)) (.slice none 0 0) w1 := ⟨⟨s0, rfl, h1, c1, fun k hk => by cases hk⟩, ⟨rfl, .inl ⟨rfl, rfl⟩⟩, b1⟩
  generalize s0.sb = sb at *
  clear h1 c1 b1
  go_loopw [5, 6] (fun v5 v6 wr => ∃ (i : Nat) (v : Value), v6 = .int .i64 (i : Int) ∧ v = v5 ∧ i ≤ n ∧ Hid (LyI w sb (laidP (l.take i)) v wr)) (fun v5 v6 wr => n - (match v6 with | .int _ i => i.toNat | _ => 0))
  case atStart => exact ⟨0, _, rfl, rfl, Nat.zero_le _, st0⟩
  case round =>
    clear st0
    obtain ⟨i, v, rfl, rfl, hin, hI⟩ := hrel
    have hLn := HN.out
    have hbig := HL.out
    by_cases hi : i < n
    · have hi' : i < l.length := by omega
      obtain ⟨b, o, rfl, hb, hr⟩ := hP.get hi'
      have hpo := ok l[i] (List.getElem_mem hi')
      have HT := hidMk (show l.take (i + 1) = l.take i ++ [l[i]] by rw [List.take_add_one, List.getElem?_eq_getElem hi']; rfl)
      generalize l[i] = p at *
      have hln := laidP_len (l.take i)
      have hdo := laidP_ok (l.take i) (fun x hx => ok x (List.mem_of_mem_take hx))
      rw [List.length_take] at hln
      obtain ⟨st, hst⟩ : ∃ st, laidP (l.take i) = st := ⟨_, rfl⟩
      have HST := hidMk hst
      rw [hst] at hI hln hdo
      have HD := hidMk (And.intro hdo hln)
      have CI := hI.out.drew.ins hpo (by omega)
      clear hst hdo hln
      go_upto_region 8 with fail
      by_cases hc : insC st.1 p.id p.bh = 0
      · have HC := hidMk hc
        refine laid8 (p := p) (c := (insC st.1 p.id p.bh : Int)) (r := true) (fun w' => LyI w sb (insR st.1 p.id p.bh, st.2) v w') _ _ _ rfl rfl rfl rfl hpo hi (by omega) (rangeAt_keep hr (hI.out.bel.drew.block b hb)) (decide_eq_true (by rw [hc]; rfl)) (CI.mono fun e w' ⟨h1, h2⟩ => ⟨h1, rangeAt_keep hr (h2.bel.block b hb), h2⟩) ?_
        intro a' w2 hI2 ha
        subst ha
        simp only [Act.put, List.setIfInBounds_toArray, List.set_cons_zero, List.set_cons_succ]
        obtain ⟨v', y1, y2, e1, e2, hI3⟩ := hI2.note hpo HD.out.1 (by have := HD.out.2; omega)
        have HI4 := hidMk hI3
        have RR := hidMk (rangeAt_keep hr (hI2.bel.block b hb))
        have E1 := hidMk e1
        have E2 := hidMk e2
        clear hI3 hI2 CI hI hr hc e1 e2
        go_upto_region 9 with fail
        refine laid9 (p := p) _ _ _ rfl rfl rfl rfl hpo hi (by omega) RR.out E1.out E2.out ?_
        intro a' w3 hw3 ha
        subst ha
        obtain rfl : w3 = y2 := hw3
        simp only [Act.put, List.setIfInBounds_toArray, List.set_cons_zero, List.set_cons_succ]
        clear E1 E2 RR hLn hbig
        go_wp2
        have hwr : Go.RowKit.wrap64 ((i : Int) + 1) = ((i + 1 : Nat) : Int) := by
          have := HL.out
          have := HN.out
          unfold Go.RowKit.wrap64
          omega
        rw [hwr]
        refine ⟨⟨i + 1, _, rfl, rfl, hi, ?_⟩, ?_⟩
        · rw [HT.out, laidP_snoc, HST.out]
          unfold layS
          rw [if_pos HC.out]
          exact HI4.out
        · show n - ((i + 1 : Nat) : Int).toNat < n - (i : Int).toNat
          omega
      · have HC := hidMk hc
        refine laid8 (p := p) (c := (insC st.1 p.id p.bh : Int)) (r := false) (fun w' => LyI w sb (insR st.1 p.id p.bh, st.2) v w') _ _ _ rfl rfl rfl rfl hpo hi (by omega) (rangeAt_keep hr (hI.out.bel.drew.block b hb)) (decide_eq_false (by omega)) (CI.mono fun e w' ⟨h1, h2⟩ => ⟨h1, rangeAt_keep hr (h2.bel.block b hb), h2⟩) ?_
        intro a' w2 hI2 ha
        subst ha
        simp only [Act.put, List.setIfInBounds_toArray, List.set_cons_zero, List.set_cons_succ]
        unfold insR at hI2
        rw [if_neg hc] at hI2
        have HI4 := hidMk hI2
        clear hI2 CI hI hr hc hLn hbig
        go_wp2
        have hwr : Go.RowKit.wrap64 ((i : Int) + 1) = ((i + 1 : Nat) : Int) := by
          have := HL.out
          have := HN.out
          unfold Go.RowKit.wrap64
          omega
        rw [hwr]
        refine ⟨⟨i + 1, _, rfl, rfl, hi, ?_⟩, ?_⟩
        · rw [HT.out, laidP_snoc, HST.out]
          unfold layS
          rw [if_neg HC.out]
          exact HI4.out
        · show n - ((i + 1 : Nat) : Int).toNat < n - (i : Int).toNat
          omega
    · obtain rfl : i = n := by omega
      rw [List.take_of_length_le (by omega)] at hI
      clear hLn hbig hin
      go_wp2
      refine bodyPost_ret (results_tmp2 rfl _ _ _) rfl ?_
      exact ⟨sb, v, rfl, hI.out⟩
end Go.Proofs.Ytlejbdepoemcjaa

namespace Go.Proofs.Ytlejbdepoemcjaa
open Go.RowKit Sq
set_option linter.unusedVariables false
set_option linter.unusedSimpArgs false

def couS (T : List IdK) (p : PutV) : List IdK := if (!decide (p.id ∈ T)) && (decide (p.bh = zId) || decide (p.bh ∈ T)) && decide (p.id.n > 0) then T ++ [p.id] else T
def couldP (l : List PutV) : List IdK := l.foldl couS []
theorem couldP_snoc (l : List PutV) (p : PutV) : couldP (l ++ [p]) = couS (couldP l) p := by simp [couldP]
theorem hasE_mem (E : List Elt) (k : IdK) : hasE E k = decide (k ∈ E.map (·.id)) := by
  rw [Bool.eq_iff_iff, hasE_iff]
  simp [List.mem_map]
/-- What can be done is what is done. -/
theorem could_laid (l : List PutV) : couldP l = (laidP l).2.map (·.id) ∧ ∀ k, k ∈ (laidP l).1.map (·.id) ↔ k ∈ couldP l := by
  refine snoc_ind (P := fun l => couldP l = (laidP l).2.map (·.id) ∧ ∀ k, k ∈ (laidP l).1.map (·.id) ↔ k ∈ couldP l) ⟨rfl, fun k => Iff.rfl⟩ (fun l p ih => ?_) l
  obtain ⟨h1, h2⟩ := ih
  rw [couldP_snoc, laidP_snoc]
  have hh : ∀ k, hasE (laidP l).1 k = decide (k ∈ couldP l) := fun k => by rw [hasE_mem]; exact decide_eq_decide.2 (h2 k)
  generalize laidP l = st at *
  generalize couldP l = T at *
  have hc : (insC st.1 p.id p.bh = 0) ↔ ((!decide (p.id ∈ T)) && (decide (p.bh = zId) || decide (p.bh ∈ T)) && decide (p.id.n > 0)) = true := by
    unfold insC
    rw [hh, hh]
    by_cases a1 : p.id.n < 1
    · rw [if_pos a1]
      have : decide (p.id.n > 0) = false := decide_eq_false (by omega)
      rw [this]; simp
    · rw [if_neg a1]
      have : decide (p.id.n > 0) = true := decide_eq_true (by omega)
      rw [this]
      by_cases a2 : p.id ∈ T
      · simp [a2]
      · by_cases a3 : p.bh = zId
        · simp [a2, a3]
        · by_cases a4 : p.bh ∈ T <;> simp [a2, a3, a4]
  unfold couS layS
  by_cases q : insC st.1 p.id p.bh = 0
  · rw [if_pos q, if_pos (hc.1 q)]
    refine ⟨by simp [h1], fun k => ?_⟩
    unfold insR
    rw [if_pos q]
    have pm := (putE_perm st.1 p.bh ⟨p.id, p.bh, true⟩).map (·.id)
    rw [pm.mem_iff, List.map_cons, List.mem_cons, List.mem_append, List.mem_singleton, h2]
    exact Or.comm
  · rw [if_neg q, if_neg (fun r => q (hc.2 r))]
    exact ⟨h1, h2⟩
theorem couldP_len (l : List PutV) : (couldP l).length ≤ l.length := by rw [(could_laid l).1, List.length_map]; exact (laidP_len l).2
theorem couldP_ok (l : List PutV) (ok : ∀ x ∈ l, x.ok) : ∀ x ∈ couldP l, x.ok := by
  rw [(could_laid l).1]
  intro x hx
  obtain ⟨p, hp, rfl⟩ := List.mem_map.1 hx
  exact (laidP_ok l ok p hp).id
theorem OwnI.app {w W : World} {v : Value} {T : List IdK} (o : OwnI W w.heap.size v T) (b' : Below w.heap.size w W) {k : IdK} (hk : k.ok) (hl : T.length + 1 ≤ 1400000000000) : ∃ v' w1 w2, (Instr.buildSlice 44 1 #[(0, k.v)]).run Try.prog W = .ok (.slice (some ⟨W.heap.size, 0, none⟩) 1 1) w1 ∧ (Builtin.append_ #[44, 44] 44 #[v, .slice (some ⟨W.heap.size, 0, none⟩) 1 1]).run Try.prog w1 = .ok v' w2 ∧ OwnI w2 w.heap.size v' (T ++ [k]) ∧ Below w.heap.size w w2 := by
  have eb := run_bsI k hk W
  have b1 : Below W.heap.size W (W.alloc (.cells k.c.toArray 32)) := (Below.refl _ _).alloc (Nat.le_refl _) _
  have zW : (W.alloc (.cells k.c.toArray 32)).heap.size = W.heap.size + 1 := by simp
  obtain ⟨v', w2, ea, o2, g2, ow⟩ := run_appI (W.alloc (.cells k.c.toArray 32)) w.heap.size v T (some ⟨W.heap.size, 0, none⟩) [k] 1 (o.below b1) (ids_lit W k _) (by simp [hk]) (by simp; omega) (by rw [zW]; have := b'.size; omega)
  exact ⟨v', _, w2, eb, ea, o2, b'.trans ((b1.mono b'.size).trans ⟨g2.os, g2.tape, g2.output, g2.size, fun j hj => g2.block j (by have := b'.size; omega) (fun e => by have := (o.cells e.symm).1; omega)⟩)⟩
set_option maxRecDepth 100000 in
set_option maxHeartbeats 1000000 in
theorem could_any (a : Option Addr) (c : Nat) (l : List PutV) (w : World) (hP : PutsAt w a l) (ok : ∀ x ∈ l, x.ok) (hl : l.length ≤ 1048576) : Calls Try.prog 21 #[.slice a l.length c] w fun e w' => e = .returned (.int .i64 ((couldP l).length : Int)) ∧ Below w.heap.size w w' := by
  obtain ⟨m, hm0⟩ : ∃ m, l.length = m := ⟨_, rfl⟩
  have HN := hidMk hm0
  have HL := hidMk hl
  rw [hm0]
  clear hm0 hl
  go_enter Try.func21, Try.ntmps21
  go_wp2
  go_loopw [3, 4] (fun v3 v4 wr => ∃ (i : Nat) (v : Value), v4 = .int .i64 (i : Int) ∧ v = v3 ∧ i ≤ m ∧ Hid (OwnI wr w.heap.size v (couldP (l.take i))) ∧ Below w.heap.size w wr) (fun v3 v4 wr => m - (match v4 with | .int _ i => i.toNat | _ => 0))
  case atStart => exact ⟨0, _, rfl, rfl, Nat.zero_le _, ⟨rfl, .inl ⟨rfl, rfl⟩⟩, Below.refl _ _⟩
  case round =>
    obtain ⟨i, v, rfl, rfl, hin, hI, bel⟩ := hrel
    have hLn := HN.out
    have hbig := HL.out
    by_cases hi : i < m
    · have hi' : i < l.length := by omega
      have hm : m ≤ 1400000000000 := by omega
      obtain ⟨pb, po, rfl, hb, hr⟩ := hP.get hi'
      have hpo := ok l[i] (List.getElem_mem hi')
      have HT := hidMk (show l.take (i + 1) = l.take i ++ [l[i]] by rw [List.take_add_one, List.getElem?_eq_getElem hi']; rfl)
      generalize l[i] = p at *
      have hln := couldP_len (l.take i)
      have hto := couldP_ok (l.take i) (fun x hx => ok x (List.mem_of_mem_take hx))
      rw [List.length_take] at hln
      obtain ⟨T, hst⟩ : ∃ T, couldP (l.take i) = T := ⟨_, rfl⟩
      have HST := hidMk hst
      rw [hst] at hI hln hto
      have hnn : T.length ≤ 1400000000000 := by omega
      obtain ⟨ta, tc, rfl, hat, _⟩ := hI.out.open hto
      have HAT := hidMk hat
      have HTO := hidMk hto
      clear hst hat hto
      go_upto_region 6 with fail
      refine could6 (p := p) (r := decide (p.bh = zId)) _ _ _ rfl rfl rfl hpo hi hm (rangeAt_keep hr (bel.block pb hb)) rfl ?_
      intro a' w1 hw ha
      subst ha
      obtain rfl : w1 = wr := hw
      simp only [Act.put, List.setIfInBounds_toArray, List.set_cons_zero, List.set_cons_succ]
      have HLN := hidMk hln
      clear hln hLn hbig
      go_wp2
      go_loopw [5, 6, 7] (fun v5 v6 v7 wq => ∃ (k : Nat) (b1 b2 : Bool), v7 = .int .i64 (k : Int) ∧ v5 = .bool b1 ∧ v6 = .bool b2 ∧ k ≤ T.length ∧ b1 = decide (p.id ∈ T.take k) ∧ b2 = (decide (p.bh = zId) || decide (p.bh ∈ T.take k)) ∧ Below w1.heap.size w1 wq) (fun v5 v6 v7 wq => T.length - (match v7 with | .int _ k => k.toNat | _ => 0))
      case atStart => exact ⟨0, false, decide (p.bh = zId), rfl, rfl, rfl, Nat.zero_le _, by simp, by simp, Below.refl _ _⟩
      case round =>
        obtain ⟨k, b1, b2, rfl, rfl, rfl, hkn, hb1, hb2, bq⟩ := hrel
        by_cases hk : k < T.length
        · obtain ⟨tb, to, rfl, htb, hrx⟩ : ∃ tb to, ta = some ⟨tb, to, none⟩ ∧ tb < w1.heap.size ∧ w1.rangeAt tb (to + 33 * k) (T[k]).c := by
            rcases HAT.out with q | ⟨tb, to, e, h1, h2⟩
            · rw [q] at hk; simp at hk
            · exact ⟨tb, to, e, h1, h2 k T[k] (List.getElem?_eq_getElem hk)⟩
          have hxo : (T[k]).ok := HTO.out _ (List.getElem_mem hk)
          have HTK := hidMk (show T.take (k + 1) = T.take k ++ [T[k]] by rw [List.take_add_one, List.getElem?_eq_getElem hk]; rfl)
          generalize T[k] = x at *
          have RP := hidMk (rangeAt_keep hr ((bel.trans (bq.mono bel.size)).block pb hb))
          have RX := hidMk (rangeAt_keep hrx (bq.block tb htb))
          have HB1 := hidMk (show decide (p.id ∈ T.take k ++ [x]) = (b1 || decide (x = p.id)) by rw [hb1]; simp [eq_comm])
          have HB2 := hidMk (show (decide (p.bh = zId) || decide (p.bh ∈ T.take k ++ [x])) = (b2 || decide (x = p.bh)) by rw [hb2]; simp [eq_comm, Bool.or_assoc])
          clear hb1 hb2 hrx
          go_upto_region 10 with fail
          cases b1 with
          | false =>
            cases b2 with
            | false =>
              refine could10f (p := p) (x := x) (r := decide (x = p.id)) _ _ _ rfl rfl rfl rfl rfl rfl hpo hi hm hxo hk hnn RP.out RX.out rfl ?_
              intro a' w2 hw ha
              subst ha
              obtain rfl : w2 = wr.drew := hw
              simp only [Act.put, List.setIfInBounds_toArray, List.set_cons_zero, List.set_cons_succ]
              go_upto_region 11 with fail
              refine could11f (p := p) (x := x) (r := decide (x = p.bh)) _ _ _ rfl rfl rfl rfl rfl rfl hpo hi hm hxo hk hnn RP.out RX.out rfl ?_
              intro a' w2 hw ha
              subst ha
              obtain rfl : w2 = wr.drew.drew := hw
              simp only [Act.put, List.setIfInBounds_toArray, List.set_cons_zero, List.set_cons_succ]
              clear RP RX hxo
              go_wp2
              have hq : ((k : Int) + 1) = ((k + 1 : Nat) : Int) := by omega
              rw [hq]
              refine ⟨⟨k + 1, decide (x = p.id), decide (x = p.bh), rfl, rfl, rfl, hk, ?_, ?_, bq.drew.drew⟩, ?_⟩
              · rw [HTK.out, HB1.out]; simp
              · rw [HTK.out, HB2.out]; simp
              · show T.length - ((k + 1 : Nat) : Int).toNat < T.length - (k : Int).toNat
                omega
            | true =>
              refine could10f (p := p) (x := x) (r := decide (x = p.id)) _ _ _ rfl rfl rfl rfl rfl rfl hpo hi hm hxo hk hnn RP.out RX.out rfl ?_
              intro a' w2 hw ha
              subst ha
              obtain rfl : w2 = wr.drew := hw
              simp only [Act.put, List.setIfInBounds_toArray, List.set_cons_zero, List.set_cons_succ]
              go_upto_region 11 with fail
              refine could11t (pb := pb) (po := po) (m := m) (pc := c) (i := i) (tb := tb) (to := to) (n := T.length) (tc := tc) (k := k) _ _ _ rfl rfl rfl rfl rfl rfl ?_
              intro a' w2 hw ha
              subst ha
              obtain rfl : w2 = wr.drew.drew := hw
              simp only [Act.put, List.setIfInBounds_toArray, List.set_cons_zero, List.set_cons_succ]
              clear RP RX hxo
              go_wp2
              have hq : ((k : Int) + 1) = ((k + 1 : Nat) : Int) := by omega
              rw [hq]
              refine ⟨⟨k + 1, decide (x = p.id), true, rfl, rfl, rfl, hk, ?_, ?_, bq.drew.drew⟩, ?_⟩
              · rw [HTK.out, HB1.out]; simp
              · rw [HTK.out, HB2.out]; simp
              · show T.length - ((k + 1 : Nat) : Int).toNat < T.length - (k : Int).toNat
                omega
          | true =>
            cases b2 with
            | false =>
              refine could10t (pb := pb) (po := po) (m := m) (pc := c) (i := i) (tb := tb) (to := to) (n := T.length) (tc := tc) (k := k) _ _ _ rfl rfl rfl rfl rfl rfl ?_
              intro a' w2 hw ha
              subst ha
              obtain rfl : w2 = wr.drew := hw
              simp only [Act.put, List.setIfInBounds_toArray, List.set_cons_zero, List.set_cons_succ]
              go_upto_region 11 with fail
              refine could11f (p := p) (x := x) (r := decide (x = p.bh)) _ _ _ rfl rfl rfl rfl rfl rfl hpo hi hm hxo hk hnn RP.out RX.out rfl ?_
              intro a' w2 hw ha
              subst ha
              obtain rfl : w2 = wr.drew.drew := hw
              simp only [Act.put, List.setIfInBounds_toArray, List.set_cons_zero, List.set_cons_succ]
              clear RP RX hxo
              go_wp2
              have hq : ((k : Int) + 1) = ((k + 1 : Nat) : Int) := by omega
              rw [hq]
              refine ⟨⟨k + 1, true, decide (x = p.bh), rfl, rfl, rfl, hk, ?_, ?_, bq.drew.drew⟩, ?_⟩
              · rw [HTK.out, HB1.out]; simp
              · rw [HTK.out, HB2.out]; simp
              · show T.length - ((k + 1 : Nat) : Int).toNat < T.length - (k : Int).toNat
                omega
            | true =>
              refine could10t (pb := pb) (po := po) (m := m) (pc := c) (i := i) (tb := tb) (to := to) (n := T.length) (tc := tc) (k := k) _ _ _ rfl rfl rfl rfl rfl rfl ?_
              intro a' w2 hw ha
              subst ha
              obtain rfl : w2 = wr.drew := hw
              simp only [Act.put, List.setIfInBounds_toArray, List.set_cons_zero, List.set_cons_succ]
              go_upto_region 11 with fail
              refine could11t (pb := pb) (po := po) (m := m) (pc := c) (i := i) (tb := tb) (to := to) (n := T.length) (tc := tc) (k := k) _ _ _ rfl rfl rfl rfl rfl rfl ?_
              intro a' w2 hw ha
              subst ha
              obtain rfl : w2 = wr.drew.drew := hw
              simp only [Act.put, List.setIfInBounds_toArray, List.set_cons_zero, List.set_cons_succ]
              clear RP RX hxo
              go_wp2
              have hq : ((k : Int) + 1) = ((k + 1 : Nat) : Int) := by omega
              rw [hq]
              refine ⟨⟨k + 1, true, true, rfl, rfl, rfl, hk, ?_, ?_, bq.drew.drew⟩, ?_⟩
              · rw [HTK.out, HB1.out]; simp
              · rw [HTK.out, HB2.out]; simp
              · show T.length - ((k + 1 : Nat) : Int).toNat < T.length - (k : Int).toNat
                omega
        · have hkT : k = T.length := by omega
          rw [List.take_of_length_le (by omega)] at hb1 hb2
          have bel2 := bel.trans (bq.mono bel.size)
          have OW := hidMk (show OwnI wr w.heap.size (.slice ta T.length tc) T from hI.out.below bq)
          have RP := hidMk (rangeAt_keep hr (bel2.block pb hb))
          have HB := hidMk (And.intro hb1 hb2)
          clear hb1 hb2
          have FIN : Hid (∀ (v' : Value) (wz : World), OwnI wz w.heap.size v' (couS T p) → OwnI wz w.heap.size v' (couldP (l.take (i + 1)))) := fun v' wz h => by rw [HT.out, couldP_snoc, HST.out]; exact h
          have HWR : Hid (((i : Int) + 1) = ((i + 1 : Nat) : Int)) := by
            show _ = _
            omega
          go_upto_region 12 with fail
          cases b1 with
          | true =>
            refine could12c (pb := pb) (po := po) (m := m) (pc := c) (i := i) (b := b2) _ _ _ rfl rfl rfl rfl rfl ?_
            intro a' w2 hw ha
            subst ha
            obtain rfl : w2 = wr := hw
            simp only [Act.put, List.setIfInBounds_toArray, List.set_cons_zero, List.set_cons_succ]
            clear RP
            go_wp2
            rw [HWR.out]
            exact ⟨⟨i + 1, _, rfl, rfl, hi, FIN.out _ _ (by unfold couS; rw [if_neg (by rw [← HB.out.1, ← HB.out.2]; simp)]; exact OW.out), bel2⟩, by show m - ((i + 1 : Nat) : Int).toNat < m - (i : Int).toNat; omega⟩
          | false =>
            cases b2 with
            | false =>
              refine could12b (pb := pb) (po := po) (m := m) (pc := c) (i := i) _ _ _ rfl rfl rfl rfl rfl ?_
              intro a' w2 hw ha
              subst ha
              obtain rfl : w2 = wr := hw
              simp only [Act.put, List.setIfInBounds_toArray, List.set_cons_zero, List.set_cons_succ]
              clear RP
              go_wp2
              rw [HWR.out]
              exact ⟨⟨i + 1, _, rfl, rfl, hi, FIN.out _ _ (by unfold couS; rw [if_neg (by rw [← HB.out.1, ← HB.out.2]; simp)]; exact OW.out), bel2⟩, by show m - ((i + 1 : Nat) : Int).toNat < m - (i : Int).toNat; omega⟩
            | true =>
              cases hn : decide (p.id.n > 0) with
              | false =>
                have HNN := hidMk hn
                refine could12a (p := p) (r := false) _ _ _ rfl rfl rfl rfl rfl hpo hi hm RP.out hn ?_
                intro a' w2 hw ha
                subst ha
                obtain rfl : w2 = wr := hw
                simp only [Act.put, List.setIfInBounds_toArray, List.set_cons_zero, List.set_cons_succ]
                clear RP hn
                go_wp2
                rw [HWR.out]
                exact ⟨⟨i + 1, _, rfl, rfl, hi, FIN.out _ _ (by unfold couS; rw [if_neg (by rw [← HB.out.1, ← HB.out.2]; rw [HNN.out]; simp)]; exact OW.out), bel2⟩, by show m - ((i + 1 : Nat) : Int).toNat < m - (i : Int).toNat; omega⟩
              | true =>
                have HNN := hidMk hn
                refine could12a (p := p) (r := true) _ _ _ rfl rfl rfl rfl rfl hpo hi hm RP.out hn ?_
                intro a' w2 hw ha
                subst ha
                obtain rfl : w2 = wr := hw
                simp only [Act.put, List.setIfInBounds_toArray, List.set_cons_zero, List.set_cons_succ]
                clear hn
                obtain ⟨v', y1, y2, e1, e2, o3, b3⟩ := OW.out.app bel2 hpo.id (by have := HLN.out; omega)
                have O3 := hidMk (show OwnI y2 w.heap.size v' (couS T p) by unfold couS; rw [if_pos (by rw [← HB.out.1, ← HB.out.2, HNN.out]; rfl)]; exact o3)
                have E1 := hidMk e1
                have E2 := hidMk e2
                clear o3 e1 e2
                go_upto_region 13 with fail
                refine could13 (p := p) _ _ _ rfl rfl rfl rfl hpo hi hm RP.out E1.out E2.out ?_
                intro a' w2 hw ha
                subst ha
                obtain rfl : w2 = y2 := hw
                simp only [Act.put, List.setIfInBounds_toArray, List.set_cons_zero, List.set_cons_succ]
                clear RP E1 E2 OW bel2 HB bq
                go_wp2
                rw [HWR.out]
                exact ⟨⟨i + 1, _, rfl, rfl, hi, FIN.out _ _ (O3.out), b3⟩, by show m - ((i + 1 : Nat) : Int).toNat < m - (i : Int).toNat; omega⟩
    · obtain rfl : i = m := by omega
      rw [List.take_of_length_le (by omega)] at hI
      have ok2 := couldP_ok l ok
      obtain ⟨ta, tc, rfl, hat, _⟩ := hI.out.open ok2
      clear hLn hbig hin hat ok2
      go_wp2
      go_ret
      exact ⟨rfl, bel⟩
end Go.Proofs.Ytlejbdepoemcjaa

namespace Go.Proofs.Ytlejbdepoemcjaa
open Go.RowKit Sq
set_option linter.unusedVariables false
set_option linter.unusedSimpArgs false

def idsE (E : List Elt) (c : Bool) : List IdK := (visE E c).map (·.id)
/-- A sequence and lists of its Ids that were handed out, all of them laid since w. -/
structure BK (w : World) (s : Sx) (E : List Elt) (Ls : List (Value × List IdK)) (W : World) : Prop where
  sq : SeqAt W s E
  lo : ∀ j ∈ s.bl, w.heap.size ≤ j
  bel : Below w.heap.size w W
  ls : ∀ p ∈ Ls, OwnI W w.heap.size p.1 p.2 ∧ (∀ x ∈ p.2, x.ok) ∧ p.2.length ≤ 1400000000000 ∧ ∀ k, p.1.ownBlock = some k → k ∉ s.bl
section
variable {w W : World} {s : Sx} {E : List Elt} {Ls : List (Value × List IdK)}
theorem OwnI.lt {w : World} {base : Nat} {v : Value} {l : List IdK} (h : OwnI w base v l) {k : Nat} (hk : v.ownBlock = some k) : k < w.heap.size := by
  obtain ⟨_, c, t, q, e⟩ := h.cells hk
  exact (Array.getElem?_eq_some_iff.1 e).1
theorem BK.below {W' : World} (h : BK w s E Ls W) (b : Below W.heap.size W W') : BK w s E Ls W' :=
  ⟨h.sq.below b, h.lo, h.bel.trans (b.mono h.bel.size), fun p hp => ⟨(h.ls p hp).1.below b, (h.ls p hp).2⟩⟩
theorem BK.nxt {W' : World} {s' : Sx} {E' : List Elt} (h : BK w s E Ls W) (nx : Nxt s W s' E' W') : BK w s' E' Ls W' := by
  have bb : Below w.heap.size W W' := nx.tch.belowS h.bel.size h.lo
  refine ⟨nx.at', fun j hj => ?_, h.bel.trans bb, fun p hp => ?_⟩
  · rcases nx.bl j hj with q | q
    · exact h.lo j q
    · exact Nat.le_trans h.bel.size q
  · obtain ⟨a1, a2, a3, a4⟩ := h.ls p hp
    refine ⟨a1.keep (fun k hk => nx.tch.block k (a1.lt hk) (a4 k hk)), a2, a3, fun k hk hj => ?_⟩
    rcases nx.bl k hj with q | q
    · exact a4 k hk q
    · have := a1.lt hk; omega
theorem BK.add {W' : World} {v : Value} {c : Bool} (h : BK w s E Ls W) (o : OwnI W' W.heap.size v (idsE E c)) (b : Below W.heap.size W W') : BK w s E ((v, idsE E c) :: Ls) W' := by
  have h' := h.below b
  refine ⟨h'.sq, h'.lo, h'.bel, fun p hp => ?_⟩
  rcases List.mem_cons.1 hp with rfl | hp
  · have hl : (visE E c).length ≤ E.length := List.length_filter_le _ _
    have := h.sq.lk.len
    have := h.sq.row.len
    refine ⟨⟨o.1, ?_⟩, fun x hx => ?_, by simp [idsE]; omega, fun k hk hj => ?_⟩
    · rcases o.2 with q | ⟨g, cap, cur, e, hb, r⟩
      · exact .inl q
      · exact .inr ⟨g, cap, cur, e, Nat.le_trans h.bel.size hb, r⟩
    · obtain ⟨e, he, rfl⟩ := List.mem_map.1 hx
      exact (h.sq.lk.ok.ok e (List.mem_filter.1 he).1).1
    · have := h.sq.lt k hj
      have := (o.cells hk).1
      omega
  · exact h'.ls p hp
theorem BK.ids (h : BK w s E Ls W) : Calls Try.prog 22 #[.pointer (some ⟨s.sb, 0, none⟩)] W fun e w' => ∃ v n c, e = .returned (.slice v n c) ∧ (n = (idsE E false).length ∧ n ≤ 1400000000000) ∧ BK w s E ((.slice v n c, idsE E false) :: Ls) w' := by
  refine (ids_any h.sq).mono ?_
  rintro e w' ⟨v, rfl, o, b⟩
  have h2 := h.add o b
  obtain ⟨a, c, rfl, _, _⟩ := o.open (h2.ls (v, idsE E false) (by simp)).2.1
  exact ⟨a, _, c, rfl, ⟨rfl, (h2.ls _ (List.mem_cons_self ..)).2.2.1⟩, h2⟩
theorem BK.live (h : BK w s E Ls W) : Calls Try.prog 29 #[.pointer (some ⟨s.sb, 0, none⟩)] W fun e w' => ∃ v n c, e = .returned (.slice v n c) ∧ (n = (idsE E true).length ∧ n ≤ 1400000000000) ∧ BK w s E ((.slice v n c, idsE E true) :: Ls) w' := by
  refine (live_any h.sq).mono ?_
  rintro e w' ⟨v, rfl, o, b⟩
  have h2 := h.add o b
  obtain ⟨a, c, rfl, _, _⟩ := o.open (h2.ls (v, idsE E true) (by simp)).2.1
  exact ⟨a, _, c, rfl, ⟨rfl, (h2.ls _ (List.mem_cons_self ..)).2.2.1⟩, h2⟩
theorem BK.same (h : BK w s E Ls W) {u v : Value} {A B : List IdK} (h1 : (u, A) ∈ Ls) (h2 : (v, B) ∈ Ls) : Calls Try.prog 44 #[u, v] W fun e w' => e = .returned (.bool (decide (A = B))) ∧ BK w s E Ls w' := by
  obtain ⟨a1, a2, a3, _⟩ := h.ls _ h1
  obtain ⟨b1, b2, b3, _⟩ := h.ls _ h2
  simp only at a1 a2 a3 b1 b2 b3
  obtain ⟨a, ca, rfl, ia, _⟩ := OwnI.open a1 a2
  obtain ⟨b, cb, rfl, ib, _⟩ := OwnI.open b1 b2
  refine (same_ids a b ca cb A B W ia ib a2 b2 (by omega)).mono ?_
  rintro e w' ⟨rfl, bb⟩
  exact ⟨rfl, h.below bb⟩
end
/-- Put and taken: as if it had never been. -/
theorem rem_put {E : List Elt} {k b : IdK} (h : hasE E k = false) : remE (putE E b ⟨k, b, true⟩) k = E := by
  have hn : ∀ e ∈ E, e.id ≠ k := fun e he q => by
    have : hasE E k = true := hasE_iff.2 ⟨e, he, q⟩
    rw [h] at this; cases this
  have hs : ∀ F : List Elt, (∀ e ∈ F, e.id ≠ k) → remE F k = F := fun F hF => List.filter_eq_self.2 fun e he => by simpa using hF e he
  have hi : ∀ F : List Elt, (∀ e ∈ F, e.id ≠ k) → remE (insE F b ⟨k, b, true⟩) k = F := by
    intro F
    induction F with
    | nil => intro _; simp [insE, remE]
    | cons e F ih =>
      intro hF
      have he : (!decide (e.id = k)) = true := by simpa using hF e (by simp)
      have hF' := fun x hx => hF x (List.mem_cons_of_mem _ hx)
      unfold insE
      split
      · unfold remE
        rw [List.filter_cons, if_pos he, List.filter_cons, if_neg (by simp)]
        exact congrArg _ (hs F hF')
      · unfold remE
        rw [List.filter_cons, if_pos he]
        exact congrArg _ (ih hF')
  unfold putE
  split
  · unfold remE
    rw [List.filter_cons, if_neg (by simp)]
    exact hs E hn
  · exact hi E hn
theorem insC_zero {E : List Elt} {k b : IdK} (h : insC E k b = 0) : 1 ≤ k.n ∧ hasE E k = false ∧ (b = zId ∨ hasE E b = true) := by
  unfold insC at h
  split at h
  · cases h
  · next h1 =>
    split at h
    · cases h
    · next h2 =>
      split at h
      · cases h
      · next h3 =>
        refine ⟨by omega, by simpa using h2, ?_⟩
        by_cases q : b = zId
        · exact .inl q
        · refine .inr ?_
          cases r : hasE E b with
          | true => rfl
          | false => exact absurd ⟨q, r⟩ h3
theorem back_pure {E : List Elt} {k b : IdK} (ok : SeqOk E) (h : insC E k b = 0) : takC (insR E k b) k = 0 ∧ takR (insR E k b) k = E ∧ hasE (insR E k b) k = true ∧ (idsE (insR E k b) false).length = (idsE E false).length + 1 ∧ 0 ≤ aheadE (insR E k b) false k := by
  obtain ⟨h1, h2, h3⟩ := insC_zero h
  have e : insR E k b = putE E b ⟨k, b, true⟩ := by unfold insR; rw [if_pos h]
  have hkz : k ≠ zId := fun q => by rw [q] at h1; simp [zId] at h1
  have hh : hasE (putE E b ⟨k, b, true⟩) k = true := by rw [hasE_perm (putE_perm E b _) k]; exact hasE_iff.2 ⟨⟨k, b, true⟩, by simp, rfl⟩
  have hf : folE (putE E b ⟨k, b, true⟩) k = 0 := by
    rw [folE_perm (putE_perm E b _) k]
    unfold folE
    rw [List.countP_cons]
    have := folE_zero ok h2 hkz
    unfold folE at this
    rw [this]
    have : b ≠ k := fun q => by
      rcases h3 with r | r
      · exact hkz (q.symm.trans r)
      · rw [q, h2] at r; cases r
    simp [this]
  have ht : takC (insR E k b) k = 0 := by
    rw [e]; unfold takC
    rw [hh, if_neg (by decide), if_neg (by omega)]
  refine ⟨ht, ?_, by rw [e]; exact hh, ?_, ?_⟩
  · unfold takR
    rw [if_pos ht, e]
    exact rem_put h2
  · have := (putE_perm E b ⟨k, b, true⟩).length_eq
    rw [e]
    have hv : ∀ F : List Elt, visE F false = F := fun F => List.filter_eq_self.2 fun x _ => rfl
    simp only [idsE, hv, List.length_map]
    simpa using this
  · unfold aheadE
    rw [e, if_pos hh]
    omega
end Go.Proofs.Ytlejbdepoemcjaa

namespace Go.Proofs.Ytlejbdepoemcjaa
open Go.RowKit Sq
set_option linter.unusedVariables false
set_option linter.unusedSimpArgs false

theorem put_split {E : List Elt} (ok : SeqOk E) {k b : IdK} (h : insC E k b = 0) : ∃ A B, E = A ++ B ∧ insR E k b = A ++ ⟨k, b, true⟩ :: B ∧ (b = zId ∧ A = [] ∨ b ≠ zId ∧ ∃ A' e, A = A' ++ [e] ∧ e.id = b ∧ ∀ y ∈ A', y.id ≠ b) := by
  obtain ⟨h1, h2, h3⟩ := insC_zero h
  unfold insR
  rw [if_pos h]
  by_cases hz : b = zId
  · exact ⟨[], E, rfl, by unfold putE; rw [if_pos hz]; rfl, .inl ⟨hz, rfl⟩⟩
  · have hb := h3.resolve_left hz
    obtain ⟨e, he, hid⟩ := hasE_iff.1 hb
    obtain ⟨A', B, rfl⟩ := List.append_of_mem he
    have hn : ∀ y ∈ A', y.id ≠ e.id := fun y hy q => by
      have nd := ok.nd
      rw [List.map_append, List.map_cons, List.nodup_append] at nd
      exact nd.2.2 y.id (List.mem_map.2 ⟨y, hy, rfl⟩) e.id (by simp) q
    refine ⟨A' ++ [e], B, by simp, ?_, .inr ⟨hz, A', e, rfl, hid, fun y hy => by rw [← hid]; exact hn y hy⟩⟩
    unfold putE
    rw [if_neg hz, ← hid, insE_mid hn]
    simp
theorem visE_all (E : List Elt) : visE E false = E := List.filter_eq_self.2 fun x _ => rfl
end Go.Proofs.Ytlejbdepoemcjaa

namespace Go.Proofs.Ytlejbdepoemcjaa
open Go.RowKit Sq
set_option linter.unusedVariables false
set_option linter.unusedSimpArgs false

theorem laid_len_eq (l : List PutV) : (laidP l).1.length = (couldP l).length := by
  rw [(could_laid l).1, List.length_map]
  refine snoc_ind (P := fun l => (laidP l).1.length = (laidP l).2.length) rfl (fun l p ih => ?_) l
  rw [laidP_snoc]
  unfold layS
  split
  · next h =>
    unfold insR
    rw [if_pos h]
    have := (putE_perm (laidP l).1 p.bh ⟨p.id, p.bh, true⟩).length_eq
    simp at this ⊢
    omega
  · exact ih
theorem BK.bare {w W : World} {s : Sx} {E : List Elt} {Ls : List (Value × List IdK)} (h : BK w s E Ls W) : BK w s E [] W := ⟨h.sq, h.lo, h.bel, fun p hp => by cases hp⟩
theorem BK.drew {w W : World} {s : Sx} {E : List Elt} {Ls : List (Value × List IdK)} (h : BK w s E Ls W) : BK w s E Ls W.drew := h.below ((Below.refl _ _).drew)
end Go.Proofs.Ytlejbdepoemcjaa

namespace Go.Proofs.Ytlejbdepoemcjaa
open Go.RowKit Sq
set_option linter.unusedVariables false
set_option linter.unusedSimpArgs false

/-- Ranks and indices, by the place in the list. -/
theorem ahead_get {F : List Elt} (ok : SeqOk F) (c : Bool) {i : Nat} (hi : i < F.length) : aheadE F c F[i].id = ((F.take i).countP (cE c) : Int) := by
  have hs : F = F.take i ++ F[i] :: F.drop (i + 1) := by rw [List.getElem_cons_drop]; exact (List.take_append_drop i F).symm
  have hh : hasE F F[i].id = true := hasE_iff.2 ⟨F[i], List.getElem_mem hi, rfl⟩
  unfold aheadE
  rw [if_pos hh]
  have e : F.takeWhile (fun e => !decide (e.id = F[i].id)) = F.take i := by
    have nd := ok.nd
    generalize F[i] = x at *
    rw [hs, List.map_append, List.map_cons, List.nodup_append] at nd
    conv => lhs; rw [hs]
    refine takeWhile_mid (fun y hy => ?_) (by simp)
    have : y.id ≠ x.id := nd.2.2 y.id (List.mem_map.2 ⟨y, hy, rfl⟩) x.id (by simp)
    simpa using this
  rw [e]
theorem cnt_all (l : List Elt) : l.countP (cE false) = l.length := List.countP_eq_length.2 fun x _ => rfl
theorem rank_get {F : List Elt} (ok : SeqOk F) {i : Nat} (hi : i < F.length) : aheadE F false F[i].id = (i : Int) := by
  rw [ahead_get ok false hi, cnt_all, List.length_take, Nat.min_eq_left (by omega)]
theorem rank_neg {F : List Elt} {x : IdK} (h : hasE F x = false) (c : Bool) : aheadE F c x = -1 := by unfold aheadE; rw [h]; rfl
theorem rank_has {F : List Elt} {x : IdK} {c : Bool} (h : 0 ≤ aheadE F c x) : hasE F x = true := by
  cases q : hasE F x with
  | true => rfl
  | false => rw [rank_neg q] at h; omega
theorem rank_pos {F : List Elt} {x : IdK} {c : Bool} (h : hasE F x = true) : 0 ≤ aheadE F c x := by unfold aheadE; rw [if_pos h]; omega
theorem rank_le (F : List Elt) (c : Bool) (x : IdK) : aheadE F c x ≤ (F.length : Int) := by
  unfold aheadE
  split
  · have h1 := List.countP_le_length (p := cE c) (l := F.takeWhile (fun e => !decide (e.id = x)))
    have h2 := (List.takeWhile_sublist (l := F) (fun e => !decide (e.id = x))).length_le
    omega
  · omega
theorem rank_pair {F : List Elt} (ok : SeqOk F) : (F.map (·.id)).Pairwise (fun x y => aheadE F false x < aheadE F false y) := by
  rw [List.pairwise_iff_getElem]
  intro i j hi hj hij
  rw [List.length_map] at hi hj
  rw [List.getElem_map, List.getElem_map, rank_get ok hi, rank_get ok hj]
  omega
/-- F is what a call left of E: what stays stands in the same order. -/
structure Stays (E F : List Elt) (g : IdK → Prop) : Prop where
  sub : ((E.map (·.id)).filter (fun x => hasE F x)).Sublist (F.map (·.id))
  has : ∀ x, hasE E x = true → hasE F x = false → g x
theorem Stays.pair {E F : List Elt} {g : IdK → Prop} (h : Stays E F g) (ok : SeqOk F) : (idsE E false).Pairwise (fun x y => 0 ≤ aheadE F false x → 0 ≤ aheadE F false y → aheadE F false x < aheadE F false y) := by
  rw [idsE, visE_all, List.pairwise_iff_forall_sublist]
  intro x y hxy hx hy
  have h1 := rank_has hx
  have h2 := rank_has hy
  have : [x, y].Sublist (F.map (·.id)) := by
    refine List.Sublist.trans ?_ h.sub
    have := hxy.filter (fun x => hasE F x)
    rwa [List.filter_cons, if_pos h1, List.filter_cons, if_pos h2, List.filter_nil] at this
  exact (List.pairwise_iff_forall_sublist.1 (rank_pair ok)) this
theorem Stays.refl (E : List Elt) (g : IdK → Prop) : Stays E E g := ⟨List.filter_sublist, fun x h1 h2 => by rw [h1] at h2; cases h2⟩
theorem stays_ins {E : List Elt} (ok : SeqOk E) (k b : IdK) (g : IdK → Prop) : Stays E (insR E k b) g := by
  by_cases h : insC E k b = 0
  · obtain ⟨A, B, e1, e2, _⟩ := put_split ok h
    refine ⟨List.filter_sublist.trans ?_, fun x h1 h2 => ?_⟩
    · rw [e2, e1, List.map_append, List.map_append, List.map_cons]
      exact List.Sublist.append (List.Sublist.refl _) (List.sublist_cons_self _ _)
    · obtain ⟨e, he, q⟩ := hasE_iff.1 h1
      have : hasE (insR E k b) x = true := hasE_iff.2 ⟨e, by
        rw [e2]; rw [e1] at he
        rcases List.mem_append.1 he with r | r
        · exact List.mem_append_left _ r
        · exact List.mem_append_right _ (List.mem_cons_of_mem _ r), q⟩
      rw [h2] at this; cases this
  · have : insR E k b = E := by unfold insR; rw [if_neg h]
    rw [this]; exact Stays.refl E g
theorem stays_tak (E : List Elt) (k : IdK) : Stays E (takR E k) (fun x => x = k) := by
  unfold takR
  split
  · refine ⟨?_, fun x h1 h2 => ?_⟩
    · rw [List.filter_map]
      refine List.Sublist.map _ ?_
      have hq : ∀ e ∈ E, hasE (remE E k) e.id = true → (!decide (e.id = k)) = true := fun e he q => by
        obtain ⟨f, hf, r⟩ := hasE_iff.1 q
        have := (List.mem_filter.1 hf).2
        rwa [r] at this
      have : List.filter ((fun x => hasE (remE E k) x) ∘ (·.id)) E = List.filter ((fun x => hasE (remE E k) x) ∘ (·.id)) (remE E k) := by
        generalize hasE (remE E k) = P at *
        unfold remE
        rw [List.filter_filter]
        refine List.filter_congr fun e he => ?_
        simp only [Function.comp]
        cases q : P e.id with
        | false => rfl
        | true => rw [hq e he q]; rfl
      rw [this]
      exact List.filter_sublist
    · by_cases q : x = k
      · exact q
      · obtain ⟨e, he, r⟩ := hasE_iff.1 h1
        have : hasE (remE E k) x = true := hasE_iff.2 ⟨e, List.mem_filter.2 ⟨he, by rw [r]; simpa using q⟩, r⟩
        rw [h2] at this; cases this
  · exact Stays.refl E _
theorem stays_show (E : List Elt) (k : IdK) (b : Bool) (g : IdK → Prop) : Stays E (showE E k b) g :=
  ⟨by rw [showE_ids]; exact List.filter_sublist, fun x h1 h2 => by rw [showE_has, h1] at h2; cases h2⟩
theorem SeqOk.ins {E : List Elt} (ok : SeqOk E) {k b : IdK} (hk : k.ok) (hb : b.ok) : SeqOk (insR E k b) := by
  unfold insR
  split
  · next h =>
    obtain ⟨h1, h2, h3⟩ := insC_zero h
    exact ok.put (x := ⟨k, b, true⟩) ⟨hk, hb, h1⟩ h2 h3
  · exact ok
theorem SeqOk.tak {E : List Elt} (ok : SeqOk E) (k : IdK) : SeqOk (takR E k) := by
  unfold takR
  split
  · next h =>
    refine ok.rem ?_
    unfold takC at h
    split at h
    · cases h
    · split at h
      · cases h
      · omega
  · exact ok
theorem insR_len (E : List Elt) (k b : IdK) : (insR E k b).length ≤ E.length + 1 := by
  unfold insR
  split
  · rw [(putE_perm E b _).length_eq]; simp
  · omega
theorem takR_len (E : List Elt) (k : IdK) : (takR E k).length ≤ E.length := by
  unfold takR
  split
  · exact List.length_filter_le _ _
  · omega
theorem showE_len (E : List Elt) (k : IdK) (b : Bool) : (showE E k b).length = E.length := by simp [showE]
/-- All that was laid is shown. -/
theorem laid_shown (l : List PutV) : ∀ e ∈ (laidP l).1, e.sh = true := by
  refine snoc_ind (P := fun l => ∀ e ∈ (laidP l).1, e.sh = true) (by simp [laidP]) (fun l p ih => ?_) l
  rw [laidP_snoc]
  unfold layS
  split
  · next h =>
    unfold insR
    rw [if_pos h]
    intro e he
    rcases List.mem_cons.1 ((putE_perm (laidP l).1 p.bh ⟨p.id, p.bh, true⟩).mem_iff.1 he) with rfl | q
    · rfl
    · exact ih e q
  · exact ih
/-- Those that are hidden, one behind the other. -/
def hideE (E : List Elt) (l : List IdK) : List Elt := l.foldl (fun E k => showE E k false) E
theorem hideE_snoc (E : List Elt) (l : List IdK) (k : IdK) : hideE E (l ++ [k]) = showE (hideE E l) k false := by simp [hideE]
theorem hideE_is (E : List Elt) (h : ∀ e ∈ E, e.sh = true) (l : List IdK) : hideE E l = E.map (fun e => { e with sh := !decide (e.id ∈ l) }) := by
  refine snoc_ind (P := fun l => hideE E l = E.map (fun e => { e with sh := !decide (e.id ∈ l) })) ?_ (fun l k ih => ?_) l
  · conv => lhs; rw [hideE, List.foldl_nil, ← List.map_id E]
    refine List.map_congr_left fun e he => ?_
    have := h e he
    cases e
    simp at this ⊢
    exact this
  · rw [hideE_snoc, ih]
    unfold showE
    rw [List.map_map]
    refine List.map_congr_left fun e he => ?_
    simp only [Function.comp]
    by_cases q : e.id = k
    · rw [if_pos q]
      simp [q]
    · rw [if_neg q]
      simp [q]
theorem hideE_ids (E : List Elt) (l : List IdK) : (hideE E l).map (·.id) = E.map (·.id) := by
  refine snoc_ind (P := fun l => (hideE E l).map (·.id) = E.map (·.id)) rfl (fun l k ih => ?_) l
  rw [hideE_snoc, showE_ids, ih]
theorem hideE_len (E : List Elt) (l : List IdK) : (hideE E l).length = E.length := by
  have := congrArg List.length (hideE_ids E l)
  simpa using this
theorem SeqOk.hide {E : List Elt} (ok : SeqOk E) (l : List IdK) : SeqOk (hideE E l) := by
  refine snoc_ind (P := fun l => SeqOk (hideE E l)) ok (fun l k ih => ?_) l
  rw [hideE_snoc]; exact ih.show k false
theorem hideE_sh {E : List Elt} (h : ∀ e ∈ E, e.sh = true) (l : List IdK) {i : Nat} (hi : i < (hideE E l).length) : (hideE E l)[i].sh = !decide ((hideE E l)[i].id ∈ l) := by
  have e := hideE_is E h l
  generalize hideE E l = F at *
  subst e
  rw [List.getElem_map]
/-- The element that is found at a place. -/
theorem nth_get {F : List Elt} {i : Nat} (hi : i < F.length) : nthE F false (i : Int) = (F[i].id, true) := by
  unfold nthE
  rw [visE_all, if_pos (by omega), Int.toNat_natCast, List.getD_eq_getElem?_getD, List.getElem?_map, List.getElem?_eq_getElem hi]
  rfl
theorem nth_past (F : List Elt) (c : Bool) {m : Nat} (hm : (visE F c).length = m) : nthE F c (m : Int) = (zId, false) := by
  unfold nthE
  rw [if_neg (by omega)]
theorem vis_get {F : List Elt} {i : Nat} (hi : i < F.length) (hs : F[i].sh = true) : nthE F true (((F.take i).countP (cE true) : Nat) : Int) = (F[i].id, true) := by
  have e : F = F.take i ++ F[i] :: F.drop (i + 1) := by rw [List.getElem_cons_drop]; exact (List.take_append_drop i F).symm
  have hv : visE F true = (F.take i).filter (cE true) ++ F[i] :: (F.drop (i + 1)).filter (cE true) := by
    conv => lhs; rw [e]
    unfold visE
    rw [List.filter_append, List.filter_cons, if_pos (by simp [cE, hs])]
  unfold nthE
  rw [hv, List.countP_eq_length_filter, if_pos (by simp only [List.length_append, List.length_cons]; omega), Int.toNat_natCast, List.map_append, List.map_cons, List.getD_eq_getElem?_getD]
  rw [List.getElem?_append_right (by simp)]
  simp
theorem cnt_take {F : List Elt} (c : Bool) {i : Nat} (hi : i < F.length) : (F.take (i + 1)).countP (cE c) = (F.take i).countP (cE c) + (if cE c F[i] = true then 1 else 0) := by
  rw [List.take_add_one, List.getElem?_eq_getElem hi, Option.toList, List.countP_append, List.countP_cons, List.countP_nil]
  simp
end Go.Proofs.Ytlejbdepoemcjaa

namespace Go.Proofs.Ytlejbdepoemcjaa
open Go.RowKit Sq
set_option linter.unusedVariables false
set_option linter.unusedSimpArgs false

/-- What both have stands in the same order. -/
def Agree (A B : List Elt) : Prop := (A.map (·.id)).filter (fun x => hasE B x) = (B.map (·.id)).filter (fun x => hasE A x)
theorem Agree.symm {A B : List Elt} (h : Agree A B) : Agree B A := Eq.symm h
theorem Agree.stays {A B : List Elt} (h : Agree A B) : Stays A B (fun _ => True) := ⟨by rw [show (A.map (·.id)).filter (fun x => hasE B x) = _ from h]; exact List.filter_sublist, fun _ _ _ => trivial⟩
theorem hasE_ins {E : List Elt} (ok : SeqOk E) {k b : IdK} (h : insC E k b = 0) (x : IdK) : hasE (insR E k b) x = (hasE E x || decide (k = x)) := by
  obtain ⟨A, B, e1, e2, _⟩ := put_split ok h
  rw [e2, e1, Bool.eq_iff_iff]
  simp only [Bool.or_eq_true, decide_eq_true_eq, hasE_iff, List.mem_append, List.mem_cons]
  constructor
  · rintro ⟨e, h1 | rfl | h1, q⟩
    · exact .inl ⟨e, .inl h1, q⟩
    · exact .inr q
    · exact .inl ⟨e, .inr h1, q⟩
  · rintro (⟨e, h1 | h1, q⟩ | q)
    · exact ⟨e, .inl h1, q⟩
    · exact ⟨e, .inr (.inr h1), q⟩
    · exact ⟨⟨k, b, true⟩, .inr (.inl rfl), q⟩
theorem insR_no {E : List Elt} {k b : IdK} (h : insC E k b ≠ 0) : insR E k b = E := by unfold insR; rw [if_neg h]
/-- A new one in one of the two alone. -/
theorem Agree.one {A B : List Elt} (h : Agree A B) (okA : SeqOk A) {k b : IdK} (hB : hasE B k = false) : Agree (insR A k b) B := by
  by_cases hc : insC A k b = 0
  · obtain ⟨A1, A2, e1, e2, _⟩ := put_split okA hc
    unfold Agree at h ⊢
    have hf : (B.map (·.id)).filter (fun x => hasE (insR A k b) x) = (B.map (·.id)).filter (fun x => hasE A x) := by
      refine List.filter_congr fun x hx => ?_
      rw [hasE_ins okA hc]
      have : k ≠ x := fun e => by
        subst e
        obtain ⟨y, hy, q⟩ := List.mem_map.1 hx
        have : hasE B k = true := hasE_iff.2 ⟨y, hy, q⟩
        rw [hB] at this; cases this
      simp [this]
    rw [hf, ← h, e2, e1]
    simp [List.filter_cons, hB]
  · rw [insR_no hc]; exact h
theorem pre_unique {α : Type} {P1 P2 S1 S2 : List α} {x : α} (nd : (P1 ++ x :: S1).Nodup) (e : P1 ++ x :: S1 = P2 ++ x :: S2) : P1 = P2 ∧ S1 = S2 := by
  induction P1 generalizing P2 with
  | nil =>
    cases P2 with
    | nil => simp at e; exact ⟨rfl, e⟩
    | cons y P2 =>
      simp only [List.nil_append, List.cons_append, List.cons.injEq] at e
      obtain ⟨rfl, e⟩ := e
      rw [List.nil_append, List.nodup_cons] at nd
      exact absurd (by rw [e]; simp) nd.1
  | cons a P1 ih =>
    cases P2 with
    | nil =>
      simp only [List.nil_append, List.cons_append, List.cons.injEq] at e
      obtain ⟨rfl, e⟩ := e
      rw [List.cons_append, List.nodup_cons] at nd
      exact absurd (by simp) nd.1
    | cons y P2 =>
      simp only [List.cons_append, List.cons.injEq] at e
      obtain ⟨rfl, e⟩ := e
      rw [List.cons_append, List.nodup_cons] at nd
      obtain ⟨q1, q2⟩ := ih nd.2 e
      exact ⟨by rw [q1], q2⟩
/-- A new one in both. -/
theorem Agree.two {A B : List Elt} (h : Agree A B) (okA : SeqOk A) (okB : SeqOk B) {k b : IdK} (cA : insC A k b = 0) (cB : insC B k b = 0) : Agree (insR A k b) (insR B k b) := by
  obtain ⟨_, nA, bA⟩ := insC_zero cA
  obtain ⟨_, nB, bB⟩ := insC_zero cB
  obtain ⟨A1, A2, e1, e2, e3⟩ := put_split okA cA
  obtain ⟨B1, B2, f1, f2, f3⟩ := put_split okB cB
  have fA : ∀ l : List Elt, (∀ e ∈ l, e ∈ A) → (l.map (·.id)).filter (fun x => hasE (insR B k b) x) = (l.map (·.id)).filter (fun x => hasE B x) := fun l hl => by
    refine List.filter_congr fun x hx => ?_
    rw [hasE_ins okB cB]
    have : k ≠ x := fun e => by
      subst e
      obtain ⟨y, hy, q⟩ := List.mem_map.1 hx
      have : hasE A k = true := hasE_iff.2 ⟨y, hl y hy, q⟩
      rw [nA] at this; cases this
    simp [this]
  have fB : ∀ l : List Elt, (∀ e ∈ l, e ∈ B) → (l.map (·.id)).filter (fun x => hasE (insR A k b) x) = (l.map (·.id)).filter (fun x => hasE A x) := fun l hl => by
    refine List.filter_congr fun x hx => ?_
    rw [hasE_ins okA cA]
    have : k ≠ x := fun e => by
      subst e
      obtain ⟨y, hy, q⟩ := List.mem_map.1 hx
      have : hasE B k = true := hasE_iff.2 ⟨y, hl y hy, q⟩
      rw [nB] at this; cases this
    simp [this]
  have kA : hasE (insR B k b) k = true := by rw [hasE_ins okB cB]; simp
  have kB : hasE (insR A k b) k = true := by rw [hasE_ins okA cA]; simp
  -- the parts ahead of the new one, and behind it, agree
  have key : (A1.map (·.id)).filter (fun x => hasE B x) = (B1.map (·.id)).filter (fun x => hasE A x) ∧ (A2.map (·.id)).filter (fun x => hasE B x) = (B2.map (·.id)).filter (fun x => hasE A x) := by
    have hh : (A1.map (·.id)).filter (fun x => hasE B x) ++ (A2.map (·.id)).filter (fun x => hasE B x) = (B1.map (·.id)).filter (fun x => hasE A x) ++ (B2.map (·.id)).filter (fun x => hasE A x) := by
      have := h
      unfold Agree at this
      conv at this => lhs; rw [e1]
      conv at this => rhs; rw [f1]
      rw [List.map_append, List.filter_append, List.map_append, List.filter_append] at this
      rw [e1, f1]
      rw [e1, f1] at this
      exact this
    by_cases hz : b = zId
    · have a1 : A1 = [] := by
        rcases e3 with ⟨_, q⟩ | ⟨q, _⟩
        · exact q
        · exact absurd hz q
      have b1 : B1 = [] := by
        rcases f3 with ⟨_, q⟩ | ⟨q, _⟩
        · exact q
        · exact absurd hz q
      subst a1 b1
      simpa using hh
    · obtain ⟨A1', ea, q1, q2, _⟩ := (e3.resolve_left (fun q => hz q.1)).2
      obtain ⟨B1', eb, q3, q4, _⟩ := (f3.resolve_left (fun q => hz q.1)).2
      have hbB : hasE B b = true := bB.resolve_left hz
      have hbA : hasE A b = true := bA.resolve_left hz
      have s1 : (A1.map (·.id)).filter (fun x => hasE B x) = (A1'.map (·.id)).filter (fun x => hasE B x) ++ [b] := by
        rw [q1, List.map_append, List.filter_append]
        simp [List.filter_cons, q2, hbB]
      have s2 : (B1.map (·.id)).filter (fun x => hasE A x) = (B1'.map (·.id)).filter (fun x => hasE A x) ++ [b] := by
        rw [q3, List.map_append, List.filter_append]
        simp [List.filter_cons, q4, hbA]
      rw [s1, s2, List.append_assoc, List.append_assoc] at hh
      have nd : ((A1'.map (·.id)).filter (fun x => hasE B x) ++ b :: (A2.map (·.id)).filter (fun x => hasE B x)).Nodup := by
        have := okA.nd.sublist (List.filter_sublist (p := fun x => hasE B x) (l := A.map (·.id)))
        rw [e1, List.map_append, List.filter_append, s1, List.append_assoc] at this
        exact this
      obtain ⟨r1, r2⟩ := pre_unique nd hh
      exact ⟨by rw [s1, s2, r1], r2⟩
  unfold Agree
  rw [e2, f2]
  rw [← e2, ← f2]
  conv => lhs; rw [e2]
  conv => rhs; rw [f2]
  rw [List.map_append, List.map_cons, List.filter_append, List.filter_cons, if_pos kA, List.map_append, List.map_cons, List.filter_append, List.filter_cons, if_pos kB,
    fA A1 (fun e he => by rw [e1]; simp [he]), fA A2 (fun e he => by rw [e1]; simp [he]), fB B1 (fun e he => by rw [f1]; simp [he]), fB B2 (fun e he => by rw [f1]; simp [he]), key.1, key.2]
/-- A put in one, in both, or in none. -/
theorem Agree.step {A B : List Elt} (h : Agree A B) (okA : SeqOk A) (okB : SeqOk B) {k b : IdK} (nA : hasE A k = false) (nB : hasE B k = false) (u v : Bool) : Agree (if u = true then insR A k b else A) (if v = true then insR B k b else B) := by
  by_cases cA : u = true ∧ insC A k b = 0
  · by_cases cB : v = true ∧ insC B k b = 0
    · rw [if_pos cA.1, if_pos cB.1]; exact h.two okA okB cA.2 cB.2
    · have : (if v = true then insR B k b else B) = B := by
        split
        · next q => exact insR_no (fun r => cB ⟨q, r⟩)
        · rfl
      rw [this, if_pos cA.1]
      exact h.one okA nB
  · have : (if u = true then insR A k b else A) = A := by
      split
      · next q => exact insR_no (fun r => cA ⟨q, r⟩)
      · rfl
    rw [this]
    split
    · exact (h.symm.one okB nA).symm
    · exact h
open Go.ChangeShapes Go.WideShapes Go.ChangeAt
/-- The puts' rows of the statement: the same cells, another type. -/
theorem cells_put5 : Try.prog.cellsOf 81 = 66 := by kernel_rfl
theorem put_cells5 {H : Type} {enc : TypeId × Value → H} {W : World} (fuel : Nat) (cs : List Value) (y : DataW H × List MemPlace) (h : DataW.trod enc Try.prog W 0 (fun _ => true) true fuel 81 cs = some y) : ∃ x : PutV, x.ok ∧ cs = x.c := by
  obtain ⟨y0, y1, n, _, hcl, h0, h1⟩ := trod_struct2 Try.underlying81 h
  rw [cells_put5] at hcl
  obtain ⟨A, B, rfl, hA, hB⟩ := list_split (n := 33) (m := 33) hcl
  simp only [cells_id, List.drop_zero] at h0 h1
  rw [← hA, List.take_left] at h0
  rw [← hA, List.drop_left, List.take_of_length_le (by omega)] at h1
  obtain ⟨k, hk, rfl⟩ := id_cells h0
  obtain ⟨q, hq, rfl⟩ := id_cells h1
  exact ⟨⟨k, q⟩, ⟨hk, hq⟩, rfl⟩
theorem view_puts5 {H : Type} {enc : TypeId × Value → H} {W : World} {a : Option Addr} {len cap : Nat} {d : DataW H} {p : List MemPlace} (h : DataW.Trod enc Try.prog W 0 (fun _ => true) true 79 (.slice a len cap) d p) :
    ∃ L : List PutV, L.length = len ∧ (∀ x ∈ L, x.ok) ∧ PutsAt W a L ∧ (d = .nil ∧ len = 0 ∨ ∃ el sp, d = .slice el sp ∧ el.length = len) := by
  obtain ⟨L, h1, h2, h3, h4⟩ := view_rows Try.underlying79 cells_put5 (by omega) (fun x hx => PutV.len hx) put_cells5 h
  refine ⟨L, h1, h2, ?_, h4⟩
  rcases h3 with h3 | ⟨b, off, e, hl, hr⟩
  · exact .inl h3
  · exact .inr ⟨b, off, e, hl, fun i x hx => by rw [Nat.mul_comm]; exact hr i x hx⟩
theorem ix_put5 {b o m c i : Nat} (hi : i < m) (hm : m ≤ 1400000000000) (W : World) : (Instr.indexAt 79 (.slice (some ⟨b, o, none⟩) m c) (.int .i64 (i : Int))).run Try.prog W = .ok (.pointer (some ⟨b, o + 66 * i, none⟩)) W := by
  have h2 : m ≤ 9223372036854775807 := by omega
  rw [Nat.mul_comm]
  go_simp
theorem fg_81_0 (b o : Nat) (W : World) : (Instr.fieldAt 81 (.pointer (some ⟨b, o, none⟩)) 0).run Try.prog W = .ok (.pointer (some ⟨b, o + 0, none⟩)) W := by go_simp
theorem fg_81_1 (b o : Nat) (W : World) : (Instr.fieldAt 81 (.pointer (some ⟨b, o, none⟩)) 1).run Try.prog W = .ok (.pointer (some ⟨b, o + 33, none⟩)) W := by go_simp
/-- Rows of bools. -/
def BoolsAt (w : World) (a : Option Addr) (L : List Bool) : Prop := RowAt 1 (fun b : Bool => [Value.bool b]) w a L
theorem BoolsAt.below {w w' : World} {a : Option Addr} {L : List Bool} (h : BoolsAt w a L) (hb : Below w.heap.size w w') : BoolsAt w' a L := RowAt.below h hb
theorem BoolsAt.get {w : World} {a : Option Addr} {l : List Bool} (h : BoolsAt w a l) {i : Nat} (hi : i < l.length) : ∃ b o, a = some ⟨b, o, none⟩ ∧ b < w.heap.size ∧ w.cell? ⟨b, o + i, none⟩ = some (.bool l[i]) := by
  rcases h with h | ⟨b, off, e, hl, hr⟩
  · rw [h] at hi; cases hi
  · have := hr i _ (List.getElem?_eq_getElem hi) 0 _ rfl
    rw [Nat.mul_one, Nat.add_zero] at this
    exact ⟨b, off, e, hl, this⟩
theorem cells_bool1 : Try.prog.cellsOf 4 = 1 := by kernel_rfl
theorem view_bools {H : Type} {enc : TypeId × Value → H} {W : World} {a : Option Addr} {len cap : Nat} {d : DataW H} {p : List MemPlace} (h : DataW.Trod enc Try.prog W 0 (fun _ => true) true 80 (.slice a len cap) d p) :
    ∃ L : List Bool, L.length = len ∧ (∀ x ∈ L, True) ∧ BoolsAt W a L ∧ (d = .nil ∧ len = 0 ∨ ∃ el sp, d = .slice el sp ∧ el.length = len) :=
  view_rows Try.underlying80 cells_bool1 (by omega) (ok := fun _ : Bool => True) (fun _ _ => rfl) (fun fuel cs y h => by
    obtain ⟨b, e, _⟩ := DataW.trod_bool Try.underlying4 h
    exact ⟨b, trivial, e⟩) h
theorem ix_bool {b o m c i : Nat} (hi : i < m) (hm : m ≤ 1400000000000) (W : World) : (Instr.indexAt 80 (.slice (some ⟨b, o, none⟩) m c) (.int .i64 (i : Int))).run Try.prog W = .ok (.pointer (some ⟨b, o + i, none⟩)) W := by
  have h2 : m ≤ 9223372036854775807 := by omega
  go_simp
theorem ld_bool {w : World} {b i : Nat} {v : Bool} (h : w.cell? ⟨b, i, none⟩ = some (.bool v)) : (Instr.loadAt 4 (.pointer (some ⟨b, i, none⟩))).run Try.prog w = .ok (.bool v) w := by go_simp
theorem len_bools (a : Option Addr) (n c : Nat) (W : World) (ty : TypeId) : (Builtin.len_ #[80] ty #[.slice a n c]).run Try.prog W = .ok (.int .i64 (n : Int)) W := by go_simp
end Go.Proofs.Ytlejbdepoemcjaa

