import Derived.Test.YtpdepbakopdgpaaSqj
import Derived.RangeFuncFrom
import Derived.Shelf.Abstract
import Derived.Laws.MakeOwn
import Derived.Test.YtpdepbakopdgpaaVt
import Derived.StillTailTactics
import Derived.Test.YtpdepbakopdgpaaZr
import Derived.Shelf.SlMaps.Clone
import Derived.Shelf.SlGeneric
import Derived.Ground.SlmcProg
import Derived.Test.YtpdepbakopdgpaaRows
import Derived.Lib.BufferMore
set_option maxRecDepth 100000
set_option maxHeartbeats 4000000
namespace Go.Proofs.Ytpdepbakopdgpaa
open Go.RowKit Go.Shelf Sq
set_option linter.unusedVariables false
set_option linter.unusedSimpArgs false
def Kl (l : List Nat) (W W' : World) : Prop := ∀ j ∈ l, W'.heap[j]? = W.heap[j]?
theorem Kl.trans {l : List Nat} {A B C : World} (h : Kl l A B) (k : Kl l B C) : Kl l A C := fun j hj => (k j hj).trans (h j hj)
theorem Kl.put {l : List Nat} {w : World} (hl : ∀ j ∈ l, j < w.heap.size) (W : World) (b : Nat) (o o' : Obj) (hb : w.heap.size ≤ b) (h : W.heap[b]? = some o) (h1 : o.isCells = false) (h2 : o.isWalk = false) : Kl l W (W.putObj b o') := fun j hj => by
  have := hl j hj
  exact World.putObj_heap_other (by omega)
theorem ws_of {w : World} {b1 b2 rb ro : Nat} {c : Bool} (h1 : w.cell? ⟨b1, 0, none⟩ = some (.pointer (some ⟨rb, ro, none⟩))) (h2 : w.cell? ⟨b2, 0, none⟩ = some (.int .i64 (nb c : Int))) : WS b1 b2 rb ro c w := by
  unfold WS
  constructor <;> go_simp
theorem walk1_stops (n rb ro g cap b1 b2 : Nat) (L : List Sp) (t : T) (c : Bool) (w : World) (hR : SqAt w rb ro g cap L) (hg : Good L t) (h1 : w.cell? ⟨b1, 0, none⟩ = some (.pointer (some ⟨rb, ro, none⟩))) (h2 : w.cell? ⟨b2, 0, none⟩ = some (.int .i64 (nb c : Int))) :
    SeqStopsK Fence.wide n Try.prog 77 #[.pointer (some ⟨b1, 0, none⟩), .pointer (some ⟨b2, 0, none⟩)] (fun x : OkK => #[KpV.v x.1]) (Kl [rb, g]) (fun xs => xs = visK hR.ok c t) (fun _ => True) (vis L c t).length w := by
  intro l J Jx W hW hJ hJx hY h0
  have l1 := block_lt_of_cell h1
  have l2 := block_lt_of_cell h2
  have R0 : SqAt W rb ro g cap L := hR.keep (hW.block _ hR.lt.1) (hW.block _ hR.lt.2)
  have w1 : WS b1 b2 rb ro c W.drew := ws_of ((hW.cell (p := ⟨b1, 0, none⟩) l1).trans h1) ((hW.cell (p := ⟨b2, 0, none⟩) l2).trans h2)
  have hJq : ∀ pre W W', J pre W → Qt W W' → J pre W' := fun pre W W' hj q => hJ pre W W' none hj ⟨q.os, q.tape, q.output, by rw [q.heap]; exact Nat.le_refl _, fun k _ _ => by rw [q.heap]⟩ (fun r e => by cases e)
  have HP := hidMk (pass_any (n := n) (N := (vis L c t).length) (l := l) (c := c) hR.ok J Jx hg.zip.z hg.pos hJq (fun pre x W1 hj hs hl => by
    obtain ⟨fn, tmps, assign, body, hy, hr⟩ := hY pre x W1 hj hl
    refine ⟨fn, tmps, assign, body, hy, hr.mono ?_⟩
    rintro e W' (⟨rfl, a1, a2⟩ | ⟨rfl, a1⟩)
    · exact ⟨true, rfl, .inl ⟨rfl, a1, hs.keep (a2 rb (by simp)) (a2 g (by simp))⟩⟩
    · exact ⟨false, rfl, .inr ⟨rfl, _, a1⟩⟩) t 0 [] W.drew hg.zip.rep hg.cnt R0.drew (hJq _ _ _ h0 (Qt.drew W)) (by simp))
  have HR := hidMk (root_any R0.drew hg)
  refine callsIn_of_wp Try.func77 rfl trivial ?_ rfl
  simp only [Try.ntmps77, List.size_toArray, List.length_cons, List.length_nil, Nat.reduceAdd, Nat.reduceSub, Array.replicate_succ, Array.replicate_zero, List.push_toArray, List.append_toArray, List.nil_append, List.cons_append]
  refine wpIn_wide.2 ?_
  go_upto_region 0 with fail
  refine walk0 (i := t.ix) (c := c) (l := l) (fun b w' => PassP J Jx rb ro g cap L ([] ++ visK hR.ok c t) b w') _ _ _ rfl rfl rfl rfl w1 (HR.out.mono ?_) ?_
  · rintro e w' ⟨rfl, rfl⟩
    exact ⟨rfl, w1, HP.out⟩
  intro b a' W' hP ha
  subst ha
  have HP2 := hidMk hP
  clear hP HP HR
  simp only [Act.put, List.setIfInBounds_toArray, List.set_cons_zero, List.set_cons_succ]
  go_end0
  refine ⟨⟨_, rfl⟩, ?_⟩
  rcases HP2.out with ⟨_, a, _⟩ | ⟨_, p, a⟩
  · exact .inl ⟨_, rfl, a⟩
  · exact .inr ⟨p, trivial, a⟩
attribute [local go_sem] Oper.semAt_some
theorem zeroEl (w : World) : (zeroValue 68).run Try.prog w = .ok (KpV.v zK) w := by kernel_rfl
theorem el_new (w : World) (k : KpV) (hk : KpV.ok k) : ∃ w1, (Instr.alloc 68 true (.tuple #[])).run Try.prog w = .ok (.pointer (some ⟨w.heap.size, 0, none⟩)) w1 ∧ (Instr.storeAt 68 (.pointer (some ⟨w.heap.size, 0, none⟩)) (KpV.v k)).run Try.prog w1 = .ok () (w.alloc (.cells (KpV.c k).toArray 68)) := by
  have e1 : (Instr.alloc 68 true (.tuple #[])).run Try.prog w = .ok (.pointer (some ⟨w.heap.size, 0, none⟩)) (w.alloc (.cells (KpV.c zK).toArray 68)) := by
    simp only [Instr.alloc, newVar, newRow, newObj, Sem.run_bind, zeroEl, Result.andThen_ok, KpV.v, Value.cells]
    rfl
  have e2 := run_storeVar_row (P := Try.prog) (w.alloc (.cells (KpV.c zK).toArray 68)) w.heap.size 68 68 (KpV.c zK).toArray (KpV.c k).toArray (heap_alloc_new _ _) (by rw [List.size_toArray, KpV.len hk]; exact szK)
    (by rw [List.size_toArray, List.size_toArray, KpV.len hk, KpV.len zK_ok]) (by rw [List.all_toArray, List.all_eq_true]; exact KpV.one k)
  rw [World.setRow_alloc_new] at e2
  refine ⟨_, e1, ?_⟩
  simp only [Instr.storeAt, Instr.sureAddr, Sem.run_bind, Sem.run_pure, Result.andThen_ok, KpV.v, e2]
theorem lv_store {w : World} {lb : Nat} {v : Value} (h : w.heap[lb]? = some (.cells #[v] 47 (0, 0))) (a : Option Addr) (n c : Nat) : (Instr.storeAt 47 (.pointer (some ⟨lb, 0, none⟩)) (.slice a n c)).run Try.prog w = .ok () (w.setCell ⟨lb, 0, none⟩ (.slice a n c)) ∧ (w.setCell ⟨lb, 0, none⟩ (.slice a n c)).heap[lb]? = some (.cells #[.slice a n c] 47 (0, 0)) := by
  have hc : w.cell? ⟨lb, 0, none⟩ = some v := (cell_of_row w lb 0 _ _ _ h).trans rfl
  have hf := frozen_of_row w lb 0 _ _ h
  exact ⟨by go_simp, Go.heap_setCell_same _ _ 0 _ _ _ h⟩
theorem lv_new (w : World) (a : Option Addr) (n c : Nat) : ∃ w1 w2, (Instr.alloc 47 true (.tuple #[])).run Try.prog w = .ok (.pointer (some ⟨w.heap.size, 0, none⟩)) w1 ∧ (Instr.storeAt 47 (.pointer (some ⟨w.heap.size, 0, none⟩)) (.slice a n c)).run Try.prog w1 = .ok () w2 ∧ Below w.heap.size w w2 ∧ w2.heap[w.heap.size]? = some (.cells #[.slice a n c] 47 (0, 0)) ∧ w2.heap.size = w.heap.size + 1 := by
  have hz : (zeroValue 47).run Try.prog w = .ok (.slice none 0 0) w := by kernel_rfl
  have e1 : (Instr.alloc 47 true (.tuple #[])).run Try.prog w = .ok (.pointer (some ⟨w.heap.size, 0, none⟩)) (w.alloc (.cells #[.slice none 0 0] 47)) := by
    simp only [Instr.alloc, newVar, newRow, newObj, Sem.run_bind, hz, Result.andThen_ok, Value.cells]
    rfl
  obtain ⟨e2, e3⟩ := lv_store (heap_alloc_new w (.cells #[.slice none 0 0] 47)) a n c
  exact ⟨_, _, e1, e2, ((Below.refl _ _).alloc (Nat.le_refl _) _).setCell (p := ⟨w.heap.size, 0, none⟩) (Nat.le_refl _) _, e3, by simp⟩
theorem lv_load {w : World} {lb : Nat} {v : Value} (h : w.heap[lb]? = some (.cells #[v] 47 (0, 0))) : (Instr.loadAt 47 (.pointer (some ⟨lb, 0, none⟩))).run Try.prog w = .ok v w := by
  have hc : w.cell? ⟨lb, 0, none⟩ = some v := (cell_of_row w lb 0 _ _ _ h).trans rfl
  go_simp
theorem el_load {w : World} {b : Nat} {k : KpV} (hk : KpV.ok k) (h : w.heap[b]? = some (.cells (KpV.c k).toArray 68 (0, 0))) : (Instr.loadAt 32 (.pointer (some ⟨b, 0, none⟩))).run Try.prog w = .ok k.id.v w :=
  run_loadAt_mid (P := Try.prog) w b 0 32 k.id.c _ (fun j v hv => cells_range h j v (by rw [KpV.c, List.getElem?_append_left (List.getElem?_eq_some_iff.1 hv).1]; exact hv)) Try.underlying32 rfl (by rw [IdK.len hk.id]; exact szId)
theorem walk_any (w : World) (rb ro : Nat) (c : Bool) : Calls Try.prog 69 #[.pointer (some ⟨rb, ro, none⟩), .int .i64 (nb c : Int)] w fun e w' => e = .returned (.func (.func 77) #[] #[.pointer (some ⟨w.heap.size, 0, none⟩), .pointer (some ⟨w.heap.size + 1, 0, none⟩)]) ∧ w'.heap.size = w.heap.size + 2 ∧ w'.cell? ⟨w.heap.size, 0, none⟩ = some (.pointer (some ⟨rb, ro, none⟩)) ∧ w'.cell? ⟨w.heap.size + 1, 0, none⟩ = some (.int .i64 (nb c : Int)) ∧ Below w.heap.size w w' := by
  go_enter Try.func69, Try.ntmps69
  go_wp2
  go_ret
  have z : (w.alloc (.cells #[.pointer (some ⟨rb, ro, none⟩)] 90)).heap.size = w.heap.size + 1 := by simp
  refine ⟨rfl, by simp, ?_, ?_, ((Below.refl _ _).alloc (Nat.le_refl _) _).alloc (by simp) _⟩
  · exact (World.cell?_of_block (a := ⟨w.heap.size, 0, none⟩) (Below.heap_alloc _ _ _ (by simp))).trans ((cell_of_row _ _ 0 _ _ _ (heap_alloc_new _ _)).trans rfl)
  · rw [← z]
    exact (cell_of_row _ _ 0 _ _ _ (heap_alloc_new _ _)).trans rfl
structure LI (w wl : World) (lb : Nat) (l : List IdK) (W : World) : Prop where
  v : ∃ v, W.heap[lb]? = some (.cells #[v] 47 (0, 0)) ∧ OwnI W w.heap.size v l ∧ v.ownBlock ≠ some lb
  bel : Below w.heap.size w W
  sz : wl.heap.size ≤ W.heap.size
theorem OwnI.cells {w : World} {base : Nat} {v : Value} {l : List IdK} (h : OwnI w base v l) {k : Nat} (hk : v.ownBlock = some k) : base ≤ k ∧ ∃ c t z, w.heap[k]? = some (.cells c t z) := by
  rcases h.2 with ⟨rfl, _⟩ | ⟨g, cap, cur, rfl, hb, hg, _⟩
  · cases hk
  · simp only [Value.ownBlock, Option.some.injEq] at hk
    subst hk
    exact ⟨hb, cur, _, _, hg⟩
theorem LI.own {α : Type} (w wl : World) (lb : Nat) (f : List α → List IdK) (hw : w.heap.size ≤ wl.heap.size) : OwnFrom wl.heap.size (fun pre W => LI w wl lb (f pre) W) := by
  intro pre W W' row hs hg hr
  obtain ⟨⟨v, a1, a2, a3⟩, b, z⟩ := hs
  have keep : ∀ k c t q, W.heap[k]? = some (Obj.cells c t q) → W'.heap[k]? = W.heap[k]? := fun k c t q hk => hg.block k (Array.getElem?_eq_some_iff.1 hk).1 (fun e => by
    obtain ⟨_, o, ho, hc⟩ := hr k e.symm
    rw [hk] at ho; cases ho; cases hc)
  refine ⟨⟨v, (keep _ _ _ _ a1).trans a1, a2.keep (fun k hk => by obtain ⟨_, c, t, q, e⟩ := a2.cells hk; exact keep _ _ _ _ e), a3⟩, ?_, Nat.le_trans z hg.size⟩
  exact ⟨hg.os.trans b.os, hg.tape.trans b.tape, hg.output.trans b.output, Nat.le_trans b.size hg.size, fun k hk => (hg.block k (Nat.lt_of_lt_of_le hk b.size) (fun e => by have := (hr k e.symm).1; omega)).trans (b.block k hk)⟩
theorem LI.step {w wl W : World} {lb : Nat} {l : List IdK} (h : LI w wl lb l W) (hlb : lb < wl.heap.size) (hwl : w.heap.size ≤ lb) {k : IdK} (hk : k.ok) (okl : ∀ x ∈ l, x.ok) (hlen : l.length + 1 ≤ 1400000000000) : ∃ v v' w1 w2 w3, (Instr.loadAt 47 (.pointer (some ⟨lb, 0, none⟩))).run Try.prog W = .ok v W ∧
    (Instr.buildSlice 47 1 #[(0, k.v)]).run Try.prog W = .ok (.slice (some ⟨W.heap.size, 0, none⟩) 1 1) w1 ∧ (Builtin.append_ #[47, 47] 47 #[v, .slice (some ⟨W.heap.size, 0, none⟩) 1 1]).run Try.prog w1 = .ok v' w2 ∧ (Instr.storeAt 47 (.pointer (some ⟨lb, 0, none⟩)) v').run Try.prog w2 = .ok () w3 ∧
    LI w wl lb (l ++ [k]) w3 ∧ KeepsOthers W w3 ∧ Below w.heap.size W w3 := by
  obtain ⟨⟨v, a1, a2, a3⟩, b, z⟩ := h
  have eb := run_bsI k hk W
  have o1 : OwnI (W.alloc (.cells k.c.toArray 32)) w.heap.size v l := a2.below ((Below.refl _ _).alloc (Nat.le_refl _) _)
  obtain ⟨v', w2, ea, o2, g2, ow⟩ := run_appI (W.alloc (.cells k.c.toArray 32)) w.heap.size v l (some ⟨W.heap.size, 0, none⟩) [k] 1 o1 (ids_lit W k 32) (by simp [hk]) (by simp; omega) (by simp; have := b.size; omega)
  have zW : (W.alloc (.cells k.c.toArray 32)).heap.size = W.heap.size + 1 := by simp
  have l1 : (W.alloc (.cells k.c.toArray 32)).heap[lb]? = some (.cells #[v] 47 (0, 0)) := (Below.heap_alloc _ _ _ (by omega)).trans a1
  have l2 : w2.heap[lb]? = some (.cells #[v] 47 (0, 0)) := (g2.block lb (by omega) (fun e => a3 e.symm)).trans l1
  have n2 : v'.ownBlock ≠ some lb := by
    rcases ow with e | e
    · rw [e]; exact a3
    · rw [e, zW]; intro q; simp at q; omega
  obtain ⟨sa, sc, rfl, _, _⟩ := o2.open (fun x hx => by rcases List.mem_append.1 hx with q | q; exact okl x q; simp at q; rw [q]; exact hk)
  obtain ⟨es, l3⟩ := lv_store l2 sa (l ++ [k]).length sc
  have b1 : Below w.heap.size W (W.alloc (.cells k.c.toArray 32)) := ((Below.refl _ _).alloc (Nat.le_refl _) _).mono b.size
  have b2 : Below w.heap.size W w2 := b1.trans ⟨g2.os, g2.tape, g2.output, g2.size, fun j hj => g2.block j (by have := b.size; omega) (fun e => by have := (a2.cells e.symm).1; omega)⟩
  have b3 : Below w.heap.size W (w2.setCell ⟨lb, 0, none⟩ (.slice sa (l ++ [k]).length sc)) := b2.setCell (p := ⟨lb, 0, none⟩) hwl _
  refine ⟨v, _, _, w2, _, lv_load a1, eb, ea, es, ⟨⟨_, l3, o2.keep (fun j hj => ?_), n2⟩, b.trans b3, Nat.le_trans z b3.size⟩, ?_, b3⟩
  · exact Below.heap_setCell _ _ _ _ (fun e => n2 (by rw [hj]; exact congrArg some e))
  · refine ((KeepsOthers.alloc W _).trans (KeepsOthers.of_grownBy g2 (fun j o e ho => ?_))).trans (KeepsOthers.setCell _ _ _)
    obtain ⟨_, c, t, q, e2⟩ := o1.cells e
    rw [ho] at e2
    cases e2
    rfl
attribute [local go_sem] Oper.semAt_some
theorem make_ids0 (w : World) (base n : Nat) (hn : n ≤ 1400000000000) (hb : base ≤ w.heap.size) : ∃ w', (Instr.makeSlice 47 (.int .i64 0) (.int .i64 (n : Int))).run Try.prog w = .ok (.slice (some ⟨w.heap.size, 0, none⟩) 0 n) w' ∧ OwnI w' base (.slice (some ⟨w.heap.size, 0, none⟩) 0 n) [] ∧ Below w.heap.size w w' ∧ w'.heap.size = w.heap.size + 1 := by
  obtain ⟨i, hi, hz, hs, hby⟩ := info_parts infoI
  obtain ⟨w', e, o, g⟩ := run_make_own (P := Try.prog) w base 47 32 i _ 33 Try.underlying47 hi hz hs .i64 .i64 n (by rw [hby]; omega) (by unfold maxLen; omega) hb
  have hr := run_make (P := Try.prog) w 47 32 i _ Try.underlying47 hi hz .i64 .i64 0 (n : Int) (by omega) (by omega) (by rw [hby]; omega) (by omega)
  have hw := e.symm.trans hr
  simp only [Result.ok.injEq] at hw
  exact ⟨w', e, o, grown_below g, by rw [hw.2]; simp⟩
def AxL (w : World) (lb : Nat) (x : OkK) (a : Act) (W : World) : Prop := ∃ eb, a.tmps.size = 27 ∧ a.tmps.getD 5 undef = .pointer (some ⟨lb, 0, none⟩) ∧ a.tmps.getD 6 undef = .pointer (some ⟨eb, 0, none⟩) ∧ W.heap[eb]? = some (.cells (KpV.c x.1).toArray 68 (0, 0))
theorem AxL.own (w : World) (lb B : Nat) (x : OkK) (a : Act) : OwnFrom B (fun (_ : Unit) W => AxL w lb x a W) := by
  intro _ W W' row hs hg hr
  obtain ⟨eb, h1, h2, h3, h4⟩ := hs
  refine ⟨eb, h1, h2, h3, (hg.block eb (Array.getElem?_eq_some_iff.1 h4).1 (fun e => ?_)).trans h4⟩
  obtain ⟨_, o, ho, hc⟩ := hr eb e.symm
  rw [h4] at ho; cases ho; cases hc
theorem LI.alloc {w wl W : World} {lb : Nat} {l : List IdK} (h : LI w wl lb l W) (o : Obj) : LI w wl lb l (W.alloc o) := by
  obtain ⟨⟨v, a1, a2, a3⟩, b, z⟩ := h
  exact ⟨⟨v, (Below.heap_alloc _ _ _ (Array.getElem?_eq_some_iff.1 a1).1).trans a1, a2.below ((Below.refl _ _).alloc (Nat.le_refl _) _), a3⟩, b.alloc b.size _, by simp; omega⟩
section
variable {w : World} {s : Sx} {E : List Elt}
theorem visK_ids (h : Lk s E) (ok : OkS s.L) (c : Bool) : (visK ok c s.t).map (fun x => x.1.id) = (visE E c).map (·.id) := by
  unfold visK
  rw [← h.vis c, List.map_map, List.map_map]
  refine List.map_congr_left fun j hj => ?_
  have hjm : j ∈ s.t.ids := (List.mem_filter.1 hj).1
  simp only [Function.comp]
  rw [kpO_val ok (h.good.lt hjm).2]
  rfl
set_option maxHeartbeats 8000000 in
theorem list_any (h : SeqAt w s E) (c : Bool) : Calls Try.prog 55 #[.pointer (some ⟨s.sb, 0, none⟩), .int .i64 (nb c : Int)] w fun e w' => ∃ v, e = .returned v ∧ OwnI w' w.heap.size v ((visE E c).map (·.id)) ∧ Below w.heap.size w w' := by
  have hcnt := h.lk.cnt c
  have hvl : (visE E c).length ≤ E.length := List.length_filter_le _ _
  have hlen := h.lk.len
  have hll := h.row.len
  have hvK : (vis s.L c s.t).length = (visE E c).length := by rw [← h.lk.vis c, List.length_map]
  have HIDS := hidMk (visK_ids h.lk h.row.ok c)
  obtain ⟨n, hn⟩ : ∃ n, (visE E c).length = n := ⟨_, rfl⟩
  rw [hn] at hcnt hvl hvK
  have HM := hidMk (rmany_any h.row h.lk.good c)
  rw [hcnt] at HM
  obtain ⟨wm, em, om, bm, zm⟩ := make_ids0 w w.heap.size n (by omega) (Nat.le_refl _)
  refine (callsIn_wide (n := 4)).1 ?_
  refine callsIn_of_wp_marks Try.func55 rfl trivial ?_ rfl
  simp only [Try.ntmps55, List.size_toArray, List.length_cons, List.length_nil, Nat.reduceAdd, Nat.reduceSub, Array.replicate_succ, Array.replicate_zero, List.push_toArray, List.append_toArray, List.nil_append, List.cons_append]
  refine wpIn_wide.2 ?_
  have NN := hidMk hn
  have HN1 := hidMk hvK
  have HN2 := hidMk (show n ≤ 1400000000000 by omega)
  clear hn hvK hcnt hvl hlen hll
  go_upto_region 3 with fail
  have HC3 : Hid (Calls Try.prog 68 #[.pointer (some ⟨s.sb, 1, none⟩), .int .i64 (nb c : Int)] w fun e w' => e = .returned (.int .i64 (n : Int)) ∧ ∃ y1 y2 y3, (Instr.makeSlice 47 (.int .i64 0) (.int .i64 (n : Int))).run Try.prog w' = .ok (.slice (some ⟨w.heap.size, 0, none⟩) 0 n) y1 ∧ (Instr.alloc 47 true (.tuple #[])).run Try.prog y1 = .ok (.pointer (some ⟨w.heap.size + 1, 0, none⟩)) y2 ∧ (Instr.storeAt 47 (.pointer (some ⟨w.heap.size + 1, 0, none⟩)) (.slice (some ⟨w.heap.size, 0, none⟩) 0 n)).run Try.prog y2 = .ok () y3 ∧ LI w y3 (w.heap.size + 1) [] y3 ∧ w.heap.size + 1 < y3.heap.size) := by
    refine HM.out.mono ?_
    rintro e w' ⟨rfl, q⟩
    have zq : w'.heap.size = w.heap.size := by rw [q.heap]
    obtain ⟨y1, e1, o1, b1, z1⟩ := make_ids0 w' w.heap.size n HN2.out (by omega)
    obtain ⟨y2, y3, e2, e3, b3, l3, z3⟩ := lv_new y1 (some ⟨w'.heap.size, 0, none⟩) 0 n
    rw [zq] at z1 e1 o1 e3 l3
    rw [z1] at e2 e3 b3 l3 z3
    have b13 : Below w.heap.size w y3 := ((q.below _).trans (b1.mono (by omega))).trans (b3.mono (by omega))
    refine ⟨rfl, y1, y2, y3, e1, e2, e3, ⟨⟨_, l3, ?_, ?_⟩, b13, Nat.le_refl _⟩, by omega⟩
    · exact o1.keep (fun k hk => b3.block k (by simp only [Value.ownBlock, Option.some.injEq] at hk; omega))
    · simp [Value.ownBlock]
  refine li3 (fun y => LI w y (w.heap.size + 1) [] y ∧ w.heap.size + 1 < y.heap.size) _ _ _ rfl rfl rfl HC3.out ?_
  rintro a' w1 ⟨hL, z1⟩ ha
  subst ha
  clear HC3 HM em om bm zm
  simp only [Act.put, List.setIfInBounds_toArray, List.set_cons_zero, List.set_cons_succ]
  go_upto_region 4 with fail
  refine li4 (v := .func (.func 77) #[] #[.pointer (some ⟨w1.heap.size, 0, none⟩), .pointer (some ⟨w1.heap.size + 1, 0, none⟩)]) (fun w' => w'.heap.size = w1.heap.size + 2 ∧ w'.cell? ⟨w1.heap.size, 0, none⟩ = some (.pointer (some ⟨s.sb, 1, none⟩)) ∧ w'.cell? ⟨w1.heap.size + 1, 0, none⟩ = some (.int .i64 (nb c : Int)) ∧ Below w1.heap.size w1 w') _ _ _ rfl rfl rfl (walk_any w1 s.sb 1 c) ?_
  rintro a' w2 ⟨z2, c1, c2, b2⟩ ha
  subst ha
  simp only [Act.put, List.setIfInBounds_toArray, List.set_cons_zero, List.set_cons_succ]
  have b02 : Below w.heap.size w w2 := hL.bel.trans (b2.mono hL.bel.size)
  have h2 := h.below b02
  have L2 : LI w w2 (w.heap.size + 1) [] w2 := by
    obtain ⟨⟨v, a1, a2, a3⟩, b, z⟩ := hL
    exact ⟨⟨v, (b2.block _ z1).trans a1, a2.below b2, a3⟩, b02, Nat.le_refl _⟩
  have ST := hidMk (walk1_stops (4 - 1) s.sb 1 s.g s.cap w1.heap.size (w1.heap.size + 1) s.L s.t c w2 h2.row h.lk.good c1 c2)
  clear c1 c2
  go_wp2
  refine (wpIn_wide (n := 4)).1 ?_
  refine wpIn_rangeFunc_ownH (F := Fence.wide) rfl (by omega) (gf := 77) (lb := #[.pointer (some ⟨w1.heap.size, 0, none⟩), .pointer (some ⟨w1.heap.size + 1, 0, none⟩)]) rfl trivial (enters_of Try.func77 (by kernel_rfl) rfl)
    ST.out (fun h k => h.trans k) (Kl.put (fun j hj => h2.lt j (by revert hj; simp [Sx.bl]; intro q; rcases q with q | q <;> simp [q]))) (Below.refl _ _) (fun _ => rfl)
    (fun pre W => LI w w2 (w.heap.size + 1) (pre.map (fun x => x.1.id)) W)
    (fun _ _ _ => False)
    (LI.own w w2 (w.heap.size + 1) (fun pre => pre.map (fun x : OkK => x.1.id)) b02.size)
    (fun _ _ _ _ _ hs _ _ => hs)
    L2 (AxL w (w.heap.size + 1)) (AxL.own w (w.heap.size + 1) w2.heap.size) ?assign ?body ?done ?stop
  case assign =>
    intro l pre x W K hI hK
    obtain ⟨y1, e1, e2⟩ := el_new W x.1 x.2
    have hz : (#[20].zip #[KpV.v x.1] : Array (Tmp × Value)) = #[(20, KpV.v x.1)] := by simp
    rw [hz]
    simp only [List.foldl_toArray', List.foldl_cons, List.foldl_nil, List.setIfInBounds_toArray, List.set_cons_succ, List.set_cons_zero]
    refine li5 (v := KpV.v x.1) _ _ _ rfl rfl e1 e2 ?_
    intro a' W' hw ha
    obtain rfl : W' = _ := hw
    refine hK _ _ ((KeepsOthers.alloc W _).from _) (fun j hj => ?_) (hI.alloc _) ⟨W.heap.size, ?_, ?_, ?_, heap_alloc_new _ _⟩
    · have : j < w.heap.size := h.lt j (by revert hj; simp [Sx.bl]; intro q; rcases q with q | q <;> simp [q])
      exact Below.heap_alloc _ _ _ (Nat.lt_of_lt_of_le this hI.bel.size)
    · subst ha; rfl
    · subst ha; rfl
    · subst ha; rfl
  case body =>
    rintro l pre x a' W hl hr hI ⟨eb, t1, t2, t3, hE⟩ hpl
    have hpn : pre.length < n := by rw [HN1.out] at hpl; exact hpl
    obtain ⟨v, v', y1, y2, y3, e0, e1, e2, e3, hI', ko, bl⟩ := hI.step (k := x.1.id) (by omega) (by omega) x.2.id (fun q hq => by obtain ⟨z, _, rfl⟩ := List.mem_map.1 hq; exact z.2.id) (by rw [List.length_map]; have := HN2.out; omega)
    refine wpIn_block ?_
    refine li6 (k := x.1.id) _ _ _ t1 t2 t3 e0 (el_load x.2 hE) e1 e2 e3 ?_
    intro a'' W' hw ha
    obtain rfl : W' = y3 := hw
    refine ⟨ko.from _, fun j hj => ?_, ?_⟩
    · have : j < w.heap.size := h.lt j (by revert hj; simp [Sx.bl]; intro q; rcases q with q | q <;> simp [q])
      exact bl.block j this
    · simp only [List.map_append, List.map_cons, List.map_nil]
      exact hI'
  case done =>
    rintro D ys W hD rfl hI hK
    obtain ⟨⟨v, a1, a2, a3⟩, b, z⟩ := hI
    rw [HIDS.out] at a2
    have LV := hidMk (lv_load a1)
    have kb : ∀ k, k ≠ D → (W.putObj D (.deferred none)).heap[k]? = W.heap[k]? := fun k hk => World.putObj_heap_other hk
    have bD : Below w.heap.size W (W.putObj D (.deferred none)) := (Below.refl _ W).grown (grownBy_putObj' W D (.deferred none)) (Nat.le_trans b02.size z) (fun k e => by cases e; have := b02.size; omega)
    have RES := hidMk (show OwnI (W.putObj D (.deferred none)) w.heap.size v ((visE E c).map (·.id)) from a2.keep (fun k hk => kb k (fun e => by
      obtain ⟨_, cc, t, q, e2⟩ := a2.cells hk
      rw [e, hK] at e2
      cases e2)))
    have RB := hidMk (b.trans bD)
    clear a1 a2 a3
    gi_wp2
    go_upto_region 7 with fail
    refine li7 (u := v) _ _ _ rfl rfl LV.out ?_
    intro a' w3 hw ha
    subst ha
    obtain rfl : w3 = W := hw
    simp only [Act.put, List.setIfInBounds_toArray, List.set_cons_zero, List.set_cons_succ]
    go_wp2
    refine ⟨by simp, .inl ⟨_, _, rfl, run_takeDeferred hK, ?_⟩⟩
    exact ⟨_, results_tmp (t := 4) rfl _ _ _, v, rfl, RES.out, RB.out⟩
  case stop =>
    rintro D c pre W _ _ h _
    exact h.elim
theorem ids_any (h : SeqAt w s E) : Calls Try.prog 24 #[.pointer (some ⟨s.sb, 0, none⟩)] w fun e w' => ∃ v, e = .returned v ∧ OwnI w' w.heap.size v ((visE E false).map (·.id)) ∧ Below w.heap.size w w' := by
  have HA : Hid (Calls Try.prog 55 #[.pointer (some ⟨s.sb, 0, none⟩), .int .i64 0] w fun e w' => ∃ v, e = .returned v ∧ OwnI w' w.heap.size v ((visE E false).map (·.id)) ∧ Below w.heap.size w w') := list_any h false
  go_enter Try.func24, Try.ntmps24
  go_wp2_with (first
    | (go_at_call 55; refine HA.out.mono ?_; rintro e w' ⟨v, rfl, ho, hb⟩)
    | fail)
  go_ret
  exact ⟨v, rfl, ho, hb⟩
theorem live_any (h : SeqAt w s E) : Calls Try.prog 25 #[.pointer (some ⟨s.sb, 0, none⟩)] w fun e w' => ∃ v, e = .returned v ∧ OwnI w' w.heap.size v ((visE E true).map (·.id)) ∧ Below w.heap.size w w' := by
  have HA : Hid (Calls Try.prog 55 #[.pointer (some ⟨s.sb, 0, none⟩), .int .i64 1] w fun e w' => ∃ v, e = .returned v ∧ OwnI w' w.heap.size v ((visE E true).map (·.id)) ∧ Below w.heap.size w w') := list_any h true
  go_enter Try.func25, Try.ntmps25
  go_wp2_with (first
    | (go_at_call 55; refine HA.out.mono ?_; rintro e w' ⟨v, rfl, ho, hb⟩)
    | fail)
  go_ret
  exact ⟨v, rfl, ho, hb⟩
theorem nthE_ok (h : SeqOk E) (c : Bool) (m : Int) : (nthE E c m).1.ok := by
  unfold nthE
  split
  · rw [List.getD_eq_getElem?_getD]
    cases q : ((visE E c).map (·.id))[m.toNat]? with
    | none => exact zId_ok
    | some x =>
      obtain ⟨e, he, rfl⟩ := List.mem_map.1 (List.mem_of_getElem? q)
      exact (h.ok e (List.mem_filter.1 he).1).1
  · exact zId_ok
theorem at_any (h : SeqAt w s E) (m : Int) (hm : -9223372036854775808 ≤ m ∧ m ≤ 9223372036854775807) : Calls Try.prog 31 #[.pointer (some ⟨s.sb, 0, none⟩), .int .i64 m] w fun e w' => e = .returned (.tuple #[(nthE E false m).1.v, .bool (nthE E false m).2]) ∧ Below w.heap.size w w' := by
  have hr := id_new w zId
  have bx : Below w.heap.size w (w.alloc (.cells zId.c.toArray 32)) := (Below.refl _ _).alloc (Nat.le_refl _) _
  have zx : (w.alloc (.cells zId.c.toArray 32)).heap.size = w.heap.size + 1 := by simp
  have HA : Hid (∀ W, SeqAt W s E → Calls Try.prog 58 #[.pointer (some ⟨s.sb, 0, none⟩), .int .i64 m, .int .i64 0] W fun e w' => e = .returned (.tuple #[(nthE E false m).1.v, .bool (nthE E false m).2]) ∧ Below W.heap.size W w') := fun W hW => sfind_any hW false m hm
  have OK : (nthE E false m).1.ok := nthE_ok h.lk.ok false m
  generalize nthE E false m = res at *
  go_enter Try.func31, Try.ntmps31
  go_upto_region 1 with (first
    | (refine wpList_run rfl (exec_alloc (t := 32) rfl (id_zero _)) ?_)
    | fail)
  generalize w.alloc (.cells zId.c.toArray 32) = wx at *
  have h1 := h.below bx
  have HR := hidMk hr
  have BX := hidMk bx
  have ZX := hidMk zx
  clear hr bx zx
  go_wp2_with (first
    | (go_at_call 58; refine (HA.out _ h1).mono ?_; rintro e w1 ⟨rfl, hb⟩; have ST := hidMk (store_id zId_ok OK (HR.out.below hb)))
    | (refine wpList_skip rfl rfl (exec_store (t := 32) (xv := .pointer (some ⟨w.heap.size, 0, none⟩)) (yv := res.1.v) rfl rfl rfl ST.out) ?_)
    | fail)
  refine bodyPost_ret (results_c2 rfl rfl (loadVar_id OK ((HR.out.below hb).set res.1))) rfl ?_
  have b2 := BX.out.trans (hb.mono BX.out.size)
  exact ⟨rfl, b2.trans (set_below _ b2.size (Nat.le_refl _))⟩
theorem nth_any (h : SeqAt w s E) (m : Int) (hm : -9223372036854775808 ≤ m ∧ m ≤ 9223372036854775807) : Calls Try.prog 33 #[.pointer (some ⟨s.sb, 0, none⟩), .int .i64 m] w fun e w' => e = .returned (.tuple #[(nthE E true m).1.v, .bool (nthE E true m).2]) ∧ Below w.heap.size w w' := by
  have hr := id_new w zId
  have bx : Below w.heap.size w (w.alloc (.cells zId.c.toArray 32)) := (Below.refl _ _).alloc (Nat.le_refl _) _
  have zx : (w.alloc (.cells zId.c.toArray 32)).heap.size = w.heap.size + 1 := by simp
  have HA : Hid (∀ W, SeqAt W s E → Calls Try.prog 58 #[.pointer (some ⟨s.sb, 0, none⟩), .int .i64 m, .int .i64 1] W fun e w' => e = .returned (.tuple #[(nthE E true m).1.v, .bool (nthE E true m).2]) ∧ Below W.heap.size W w') := fun W hW => sfind_any hW true m hm
  have OK : (nthE E true m).1.ok := nthE_ok h.lk.ok true m
  generalize nthE E true m = res at *
  go_enter Try.func33, Try.ntmps33
  go_upto_region 1 with (first
    | (refine wpList_run rfl (exec_alloc (t := 32) rfl (id_zero _)) ?_)
    | fail)
  generalize w.alloc (.cells zId.c.toArray 32) = wx at *
  have h1 := h.below bx
  have HR := hidMk hr
  have BX := hidMk bx
  have ZX := hidMk zx
  clear hr bx zx
  go_wp2_with (first
    | (go_at_call 58; refine (HA.out _ h1).mono ?_; rintro e w1 ⟨rfl, hb⟩; have ST := hidMk (store_id zId_ok OK (HR.out.below hb)))
    | (refine wpList_skip rfl rfl (exec_store (t := 32) (xv := .pointer (some ⟨w.heap.size, 0, none⟩)) (yv := res.1.v) rfl rfl rfl ST.out) ?_)
    | fail)
  refine bodyPost_ret (results_c2 rfl rfl (loadVar_id OK ((HR.out.below hb).set res.1))) rfl ?_
  have b2 := BX.out.trans (hb.mono BX.out.size)
  exact ⟨rfl, b2.trans (set_below _ b2.size (Nat.le_refl _))⟩
end
theorem good_new : Good [zSp] .nil := by
  refine ⟨⟨trivial, ⟨by simp, rfl, rfl⟩, by simp [T.ids, cids], fun w => by cases w <;> rfl⟩, trivial, fun i h0 h1 => ?_⟩
  simp at h1; omega
theorem zSp_ok : OkS [zSp] := fun x hx => by
  rw [List.mem_singleton.1 hx]; exact zK_ok
theorem lk_new (sb mb g cap : Nat) : Lk ⟨sb, mb, g, cap, [zSp], .nil, []⟩ [] := by
  refine ⟨good_new, rfl, ⟨by simp, by simp, by simp⟩, fun k n => ?_, rfl, fun n hn => ?_⟩
  · constructor
    · intro h; cases h
    · rintro ⟨h, _⟩; simp [T.ids] at h
  · rcases hn with rfl | h
    · rfl
    · simp [T.ids] at h
theorem make_sp (w : World) : (Instr.makeSlice 63 (.int .i64 1) (.int .i64 1)).run Try.prog w = .ok (.slice (some ⟨w.heap.size, 0, none⟩) 1 1) (w.alloc (.cells (Sp.c zSp).toArray 89)) := by kernel_rfl
theorem results_c1 {P : Program} {fn : Func} {a : Nat} {t : TypeId} (h : fn.results = #[.cell a t]) {tmps : Array Value} {w : World} {p : Addr} {v : Value} (ha : tmps.getD a undef = .pointer (some p)) (hl : (loadVar t p).run P w = .ok v w) :
    (results fn tmps).run P w = .ok v w := by
  rw [Array.getD_eq_getD_getElem?] at ha
  simp [results, h, asAddr, ha, hl, Array.mapM_eq_mapM_toList, Result.andThen]
theorem newRow_any (w : World) : Calls Try.prog 35 #[] w fun e w' => e = .returned (.agg #[.slice (some ⟨w.heap.size + 1, 0, none⟩) 1 1]) ∧ w'.heap[w.heap.size + 1]? = some (.cells (Sp.c zSp).toArray 89 (0, 0)) ∧ w'.heap.size = w.heap.size + 2 ∧ Below w.heap.size w w' := by
  go_enter Try.func35, Try.ntmps35
  go_wp2_with (first
    | (refine wpList_run rfl (exec_makeSlice rfl rfl rfl (make_sp _)) ?_)
    | fail)
  have z : (w.alloc (.cells #[.slice (some ⟨w.heap.size + 1, 0, none⟩) 1 1] 65)).heap.size = w.heap.size + 1 := by simp
  have hb : ((w.alloc (.cells #[.slice (some ⟨w.heap.size + 1, 0, none⟩) 1 1] 65)).alloc (.cells (Sp.c zSp).toArray 89)).heap[w.heap.size]? = some (.cells [Value.slice (some ⟨w.heap.size + 1, 0, none⟩) 1 1].toArray 65 (0, 0)) := (Below.heap_alloc _ _ _ (by simp)).trans (heap_alloc_new _ _)
  have hl := run_loadVar_mid (P := Try.prog) _ w.heap.size 0 65 [Value.slice (some ⟨w.heap.size + 1, 0, none⟩) 1 1] _ (cells_range hb) Try.underlying65 rfl (by kernel_rfl)
  refine bodyPost_ret (results_c1 rfl rfl hl) rfl ?_
  refine ⟨rfl, ?_, by simp, ((Below.refl _ _).alloc (Nat.le_refl _) _).alloc (by simp) _⟩
  have hn := heap_alloc_new (w.alloc (.cells #[.slice (some ⟨w.heap.size + 1, 0, none⟩) 1 1] 65)) (.cells (Sp.c zSp).toArray 89)
  rw [z] at hn
  exact hn
theorem new_any (w : World) : Calls Try.prog 9 #[] w fun e w' => ∃ s, e = .returned (.pointer (some ⟨s.sb, 0, none⟩)) ∧ SeqAt w' s [] ∧ (∀ j ∈ s.bl, w.heap.size ≤ j) ∧ Below w.heap.size w w' := by
  have HR : Hid (∀ W, Calls Try.prog 35 #[] W fun e w' => e = .returned (.agg #[.slice (some ⟨W.heap.size + 1, 0, none⟩) 1 1]) ∧ w'.heap[W.heap.size + 1]? = some (.cells (Sp.c zSp).toArray 89 (0, 0)) ∧ w'.heap.size = W.heap.size + 2 ∧ Below W.heap.size W w') := newRow_any
  have hm := M.MapAt.new w IdK.v IdK.ok
  have bm : Below w.heap.size w (w.alloc (.map #[] 0)) := (Below.refl _ _).alloc (Nat.le_refl _) _
  have zm : (w.alloc (.map #[] 0)).heap.size = w.heap.size + 1 := by simp
  go_enter Try.func9, Try.ntmps9
  have MK : Hid (∀ W : World, (Instr.makeMap 62 none).run Try.prog W = .ok (.map (some W.heap.size)) (W.alloc (.map #[] 0))) := fun W => by kernel_rfl
  go_wp2_with (first
    | (refine wpList_run rfl (exec_makeMap rfl (MK.out _)) ?_)
    | (go_at_call 35; generalize w.alloc (.map #[] 0) = wm at *; refine (HR.out _).mono ?_; rintro e w1 ⟨rfl, h1, z1, b1⟩)
    | fail)
  rw [zm] at h1 z1 b1
  have hq := heap_alloc_new w1 (.cells #[.map (some w.heap.size), .slice (some ⟨w.heap.size + 1 + 1, 0, none⟩) 1 1] 70)
  have bq : Below w1.heap.size w1 (w1.alloc (.cells #[.map (some w.heap.size), .slice (some ⟨w.heap.size + 1 + 1, 0, none⟩) 1 1] 70)) := (Below.refl _ _).alloc (Nat.le_refl _) _
  go_ret
  generalize w1.alloc (.cells #[.map (some w.heap.size), .slice (some ⟨w.heap.size + 1 + 1, 0, none⟩) 1 1] 70) = w2 at *
  rw [z1] at hq bq
  have hg : w2.heap[w.heap.size + 1 + 1]? = some (.cells (Sp.c zSp).toArray 89 (0, 0)) := (bq.block _ (by omega)).trans h1
  refine ⟨⟨w.heap.size + 1 + 2, w.heap.size, w.heap.size + 1 + 1, 1, [zSp], .nil, []⟩, rfl, ⟨?_, ⟨?_, ⟨?_, .inr ⟨w.heap.size + 1 + 1, 1, _, rfl, Nat.zero_le _, hg, Nat.le_refl _, by decide, ?_, ?_⟩⟩, ?_, by show w.heap.size + 1 + 2 ≠ w.heap.size + 1 + 1; omega, by show 1 ≤ 1400000000000; omega, _, _, hq⟩, ?_, ⟨by show w.heap.size + 1 + 2 ≠ w.heap.size; omega, by show w.heap.size + 1 + 1 ≠ w.heap.size; omega⟩, lk_new _ _ _ _⟩, ?_, ?_⟩
  · exact (cell_of_row _ _ 0 _ _ _ hq).trans rfl
  · exact (cell_of_row _ _ 1 _ _ _ hq).trans rfl
  · show (flatS [zSp]).length = 1 * 73
    rw [flatS_len zSp_ok]; rfl
  · show (Sp.c zSp).toArray.size = 1 * 73
    rw [List.size_toArray, Sp.len zK_ok]
  · show ((Sp.c zSp).toArray.toList).take (1 * 73) = flatS [zSp]
    rw [List.toList_toArray, List.take_of_length_le (by rw [Sp.len zK_ok]; omega)]
    simp [flatS]
  · exact zSp_ok
  · exact hm.below ((bq.block _ (by show w.heap.size < _; omega)).trans (b1.block _ (by show w.heap.size < _; omega)))
  · intro j hj
    simp only [Sx.bl, List.mem_cons, List.not_mem_nil, or_false] at hj
    rcases hj with rfl | rfl | rfl <;> omega
  · exact (bm.trans (b1.mono (by omega))).trans (bq.mono (by omega))
end Go.Proofs.Ytpdepbakopdgpaa
namespace Go.Proofs.Ytpdepbakopdgpaa
open Go.RowKit Sq
set_option linter.unusedVariables false
set_option linter.unusedSimpArgs false
structure PutV where
  id : IdK
  bh : IdK
def PutV.c (p : PutV) : List Value := p.id.c ++ p.bh.c
def PutV.v (p : PutV) : Value := .agg p.c.toArray
structure PutV.ok (p : PutV) : Prop where
  id : p.id.ok
  bh : p.bh.ok
theorem PutV.len {p : PutV} (h : p.ok) : p.c.length = 66 := by simp [PutV.c, IdK.len h.id, IdK.len h.bh]
theorem PutV.one (p : PutV) : ∀ v ∈ p.c, v.oneCell' = true := by
  intro v hv
  rcases List.mem_append.1 hv with h | h
  · exact IdK.one _ v h
  · exact IdK.one _ v h
def PutsAt (w : World) (a : Option Addr) (L : List PutV) : Prop := L = [] ∨ ∃ b off, a = some ⟨b, off, none⟩ ∧ b < w.heap.size ∧ ∀ i h, L[i]? = some h → w.rangeAt b (off + 66 * i) (PutV.c h)
theorem PutsAt.below {w w' : World} {a : Option Addr} {L : List PutV} (h : PutsAt w a L) (hb : Below w.heap.size w w') : PutsAt w' a L := by
  rcases h with h | ⟨b, off, e, hl, hr⟩
  · exact .inl h
  · exact .inr ⟨b, off, e, Nat.lt_of_lt_of_le hl hb.size, fun i x hx => rangeAt_keep (hr i x hx) (hb.block b hl)⟩
def flatP (L : List PutV) : List Value := L.flatMap PutV.c
theorem flatP_get : ∀ {L : List PutV}, (∀ h ∈ L, h.ok) → ∀ {i : Nat} {h : PutV}, L[i]? = some h → ∀ {j : Nat} {v : Value}, (PutV.c h)[j]? = some v → (flatP L)[66 * i + j]? = some v
  | x :: L, ok, 0, h, hi, j, v, hj => by
    simp only [List.getElem?_cons_zero, Option.some.injEq] at hi
    subst hi
    have hl := (List.getElem?_eq_some_iff.1 hj).1
    rw [Nat.mul_zero, Nat.zero_add, flatP, List.flatMap_cons, List.getElem?_append_left hl]
    exact hj
  | x :: L, ok, i + 1, h, hi, j, v, hj => by
    simp only [List.getElem?_cons_succ] at hi
    have := flatP_get (L := L) (fun h hh => ok h (by simp [hh])) hi hj
    have l := PutV.len (ok x (by simp))
    rw [flatP, List.flatMap_cons, List.getElem?_append_right (by omega), l, show 66 * (i + 1) + j - 66 = 66 * i + j by omega]
    exact this
  | [], _, i, h, hi, _, _, _ => by simp at hi
def OwnP (w : World) (base : Nat) (v : Value) (L : List PutV) : Prop := w.ownsRow base 55 66 v L.length (flatP L)
theorem OwnP.below {w w' : World} {base : Nat} {v : Value} {L : List PutV} (h : OwnP w base v L) (hb : Below w.heap.size w w') : OwnP w' base v L := by
  refine ⟨h.1, ?_⟩
  rcases h.2 with hn | ⟨g, cap, cur, rfl, hbg, hg, rest⟩
  · exact .inl hn
  · exact .inr ⟨g, cap, cur, rfl, hbg, by rw [hb.block g (Array.getElem?_eq_some_iff.1 hg).1]; exact hg, rest⟩
theorem OwnP.keep {w w' : World} {base : Nat} {v : Value} {L : List PutV} (h : OwnP w base v L) (hk : ∀ k, v.ownBlock = some k → w'.heap[k]? = w.heap[k]?) : OwnP w' base v L := by
  refine ⟨h.1, ?_⟩
  rcases h.2 with hn | ⟨g, cap, cur, rfl, hbg, hg, rest⟩
  · exact .inl hn
  · exact .inr ⟨g, cap, cur, rfl, hbg, by rw [hk g rfl]; exact hg, rest⟩
theorem OwnP.open {w : World} {base : Nat} {v : Value} {L : List PutV} (h : OwnP w base v L) (ok : ∀ h ∈ L, h.ok) : ∃ a c, v = .slice a L.length c ∧ PutsAt w a L ∧ L.length ≤ c := by
  rcases h.2 with ⟨rfl, hn⟩ | ⟨g, cap, cur, rfl, hbg, hg, hnc, hcm, hcs, htake⟩
  · obtain rfl : L = [] := List.eq_nil_of_length_eq_zero hn
    exact ⟨none, 0, rfl, .inl rfl, Nat.le_refl _⟩
  · refine ⟨some ⟨g, 0, none⟩, cap, rfl, .inr ⟨g, 0, rfl, (Array.getElem?_eq_some_iff.1 hg).1, fun i x hx j u hj => ?_⟩, hnc⟩
    have e := flatP_get ok hx hj
    rw [Nat.zero_add, cell_of_row w g _ cur 55 (0, 0) hg]
    rw [← htake, List.getElem?_take] at e
    split at e
    · simpa using e
    · cases e
section
variable {w : World} {b o : Nat} {p : PutV}
end
theorem ix_idl {b o m c i : Nat} (hi : i < m) (hm : m ≤ 1400000000000) (W : World) : (Instr.indexAt 47 (.slice (some ⟨b, o, none⟩) m c) (.int .i64 (i : Int))).run Try.prog W = .ok (.pointer (some ⟨b, o + 33 * i, none⟩)) W := by
  have : (Instr.indexAt 47 (.slice (some ⟨b, o, none⟩) m c) (.int .i64 (i : Int))).run Try.prog W = .ok (.pointer (some ⟨b, o + i * 33, none⟩)) W := by go_simp
  rw [this, Nat.mul_comm]
theorem len_ids (a : Option Addr) (n c : Nat) (W : World) (ty : TypeId) : (Builtin.len_ #[47] ty #[.slice a n c]).run Try.prog W = .ok (.int .i64 (n : Int)) W := by go_simp
end Go.Proofs.Ytpdepbakopdgpaa
namespace Go.Proofs.Ytpdepbakopdgpaa
open Go.ChangeShapes Go.WideShapes Go.ChangeAt Go.RowKit
set_option linter.unusedVariables false
set_option linter.unusedSimpArgs false
def RowAt {κ : Type} (k : Nat) (encd : κ → List Value) (w : World) (a : Option Addr) (L : List κ) : Prop := L = [] ∨ ∃ b off, a = some ⟨b, off, none⟩ ∧ b < w.heap.size ∧ ∀ i x, L[i]? = some x → w.rangeAt b (off + i * k) (encd x)
theorem RowAt.below {κ : Type} {k : Nat} {encd : κ → List Value} {w w' : World} {a : Option Addr} {L : List κ} (h : RowAt k encd w a L) (hb : Below w.heap.size w w') : RowAt k encd w' a L := by
  rcases h with h | ⟨b, off, e, hl, hr⟩
  · exact .inl h
  · exact .inr ⟨b, off, e, Nat.lt_of_lt_of_le hl hb.size, fun i x hx => rangeAt_keep (hr i x hx) (hb.block b hl)⟩
theorem RowAt.keep {κ : Type} {k : Nat} {encd : κ → List Value} {w w' : World} {a : Option Addr} {L : List κ} {N : Nat} (h : RowAt k encd w a L) (hN : N = w.heap.size) (hb : Below N w w') : RowAt k encd w' a L := by
  subst hN
  exact h.below hb
section
variable {H : Type} {enc : TypeId × Value → H} {W : World}
theorem view_rows {κ : Type} {T e k : Nat} {encd : κ → List Value} {ok : κ → Prop} (hT : Try.prog.underlying T = some (.slice e)) (hce : Try.prog.cellsOf e = k) (hk : 0 < k) (hlen : ∀ x, ok x → (encd x).length = k)
    (hcells : ∀ (fuel : Nat) (cs : List Value) (y : DataW H × List MemPlace), DataW.trod enc Try.prog W 0 (fun _ => true) true fuel e cs = some y → ∃ x, ok x ∧ cs = encd x)
    {a : Option Addr} {len cap : Nat} {d : DataW H} {p : List MemPlace} (h : DataW.Trod enc Try.prog W 0 (fun _ => true) true T (.slice a len cap) d p) :
    ∃ L : List κ, L.length = len ∧ (∀ x ∈ L, ok x) ∧ RowAt k encd W a L ∧ (d = .nil ∧ len = 0 ∨ ∃ el sp, d = .slice el sp ∧ el.length = len) := by
  obtain ⟨fuel, hf⟩ := h
  rcases DataW.trod_slice hT hf with ⟨hcs', hx⟩ | ⟨ad, l, c, elems, rest, n, _, hcs', hx, _, hl, hm, hel, hcell, _, _⟩
  · simp [Value.cells] at hcs'
    obtain ⟨rfl, rfl, rfl⟩ := hcs'
    simp only [Prod.mk.injEq] at hx
    exact ⟨[], rfl, fun v hv => (by cases hv), .inl rfl, .inl ⟨hx.1, rfl⟩⟩
  · simp [Value.cells] at hcs'
    obtain ⟨rfl, rfl, rfl⟩ := hcs'
    simp only [Prod.mk.injEq] at hx
    obtain ⟨b, off, spot⟩ := ad
    have raw : ∀ i, i < len → ∃ v : κ, ok v ∧ ∀ j u, (encd v)[j]? = some u → W.cell? (((⟨b, off, spot⟩ : Addr).add (i * k)).add j) = some u := fun i hi => by
      have hi2 := hcell i hi
      rw [List.getElem?_eq_getElem (by omega), hce, Option.bind_eq_some_iff] at hi2
      obtain ⟨cs, hc1, hc2⟩ := hi2
      obtain ⟨v, hv, rfl⟩ := hcells _ _ _ hc2
      obtain ⟨_, _, hc3⟩ := World.cells?_some hc1
      refine ⟨v, hv, fun j u hu => ?_⟩
      have hj := (List.getElem?_eq_some_iff.1 hu).1
      rw [hlen v hv] at hj
      rw [hc3 j hj]
      exact hu
    have hspot : 0 < len → spot = none ∧ b < W.heap.size := fun h0 => by
      obtain ⟨v, hv, hc⟩ := raw 0 h0
      have q := hc 0 _ (List.getElem?_eq_getElem (by rw [hlen v hv]; omega))
      have q1 := World.cell?_spot q
      have q2 : spot = none := by simpa [Addr.add] using q1
      subst q2
      refine ⟨rfl, ?_⟩
      rw [Addr.add_mid, Addr.add_mid] at q
      exact block_lt_of_cell q
    by_cases h0 : 0 < len
    · obtain ⟨hs, hb⟩ := hspot h0
      subst hs
      obtain ⟨v0, _⟩ := raw 0 h0
      let F : Nat → κ := fun i => if h : i < len then Classical.choose (raw i h) else v0
      have hF : ∀ i (h : i < len), F i = Classical.choose (raw i h) := fun i h => dif_pos h
      refine ⟨(List.range len).map F, by simp, fun v hv => ?_, ?_, .inr ⟨_, _, hx.1, by simp [hel]⟩⟩
      · rw [List.mem_map] at hv
        obtain ⟨i, hi, rfl⟩ := hv
        rw [List.mem_range] at hi
        rw [hF i hi]
        exact (Classical.choose_spec (raw i hi)).1
      · refine .inr ⟨b, off, rfl, hb, fun i v hv => ?_⟩
        have hi : i < len := by
          have := (List.getElem?_eq_some_iff.1 hv).1
          simpa using this
        rw [List.getElem?_map, List.getElem?_range hi] at hv
        simp only [Option.map_some, Option.some.injEq] at hv
        subst hv
        rw [hF i hi]
        intro j u hu
        have := (Classical.choose_spec (raw i hi)).2 j u hu
        rwa [Addr.add_mid, Addr.add_mid] at this
    · obtain rfl : len = 0 := by omega
      exact ⟨[], rfl, fun v hv => (by cases hv), .inl rfl, .inr ⟨_, _, hx.1, by simp [hel]⟩⟩
theorem i64_wf {z : Int} (h : (Lit.int .i64 z).wf = true) : -9223372036854775808 ≤ z ∧ z ≤ 9223372036854775807 := by
  simp [Lit.wf, IntKind.min, IntKind.max, IntKind.signed, IntKind.bits] at h
  omega
theorem u8_wf {z : Int} (h : (Lit.int .u8 z).wf = true) : 0 ≤ z ∧ z ≤ 255 := by
  simp [Lit.wf, IntKind.min, IntKind.max, IntKind.signed, IntKind.bits] at h
  omega
def intV : Value → Int
  | .int _ z => z
  | _ => 0
theorem cells_int : Try.prog.cellsOf 3 = 1 := by kernel_rfl
theorem cells_hash : Try.prog.cellsOf 30 = 32 := by kernel_rfl
theorem cells_id : Try.prog.cellsOf 32 = 33 := by kernel_rfl
theorem hash_cells {fuel : Nat} {cs : List Value} {y : DataW H × List MemPlace} (h : DataW.trod enc Try.prog W 0 (fun _ => true) true fuel 30 cs = some y) : ∃ l : List UInt8, l.length = 32 ∧ cs = hcs l := by
  obtain ⟨xs, m, _, _, hlen, hxs, hall⟩ := DataW.trod_array Try.underlying30 h
  rw [cells_hash] at hlen
  have hce : Try.prog.cellsOf 5 = 1 := by kernel_rfl
  have key : ∀ i (hi : i < cs.length), ∃ z : Int, cs[i] = .int .u8 z ∧ 0 ≤ z ∧ z ≤ 255 := by
    intro i hi
    have h1 := hall i (by omega)
    rw [hce, Nat.mul_one, List.getElem?_eq_getElem (by omega)] at h1
    obtain ⟨z, e0, _, w0⟩ := DataW.trod_int Try.underlying5 h1
    have hb := u8_wf w0
    refine ⟨z, ?_, hb.1, hb.2⟩
    rw [List.drop_eq_getElem_cons hi, List.take_succ_cons, List.take_zero] at e0
    exact (List.cons.inj e0).1
  refine ⟨cs.map (fun v => UInt8.ofNat (intV v).toNat), by simpa using hlen, ?_⟩
  apply List.ext_getElem
  · simp [hcs, bs]
  · intro i h1 h2
    obtain ⟨z, hz, z0, z1⟩ := key i h1
    simp only [hcs, bs, List.map_map, List.getElem_map, Function.comp_apply]
    rw [hz]
    simp only [intV, Value.int.injEq, true_and]
    rw [UInt8.toNat_ofNat']
    omega
theorem list_split {α : Type} {l : List α} {n m : Nat} (h : l.length = n + m) : ∃ a b, l = a ++ b ∧ a.length = n ∧ b.length = m := ⟨l.take n, l.drop n, (List.take_append_drop n l).symm, by simp; omega, by simp; omega⟩
theorem id_cells {fuel : Nat} {cs : List Value} {y : DataW H × List MemPlace} (h : DataW.trod enc Try.prog W 0 (fun _ => true) true fuel 32 cs = some y) : ∃ x : IdK, x.ok ∧ cs = x.c := by
  obtain ⟨y0, y1, n, _, hcl, h0, h1⟩ := trod_struct2 Try.underlying32 h
  rw [cells_id] at hcl
  obtain ⟨A, B, rfl, hA, hB⟩ := list_split (n := 32) (m := 1) hcl
  simp only [cells_hash, cells_int, List.drop_zero] at h0 h1
  rw [← hA, List.take_left] at h0
  rw [← hA, List.drop_left, List.take_of_length_le (by omega)] at h1
  obtain ⟨k, hk, rfl⟩ := hash_cells h0
  obtain ⟨z, e0, _, w0⟩ := DataW.trod_int Try.underlying3 h1
  subst e0
  have b := i64_wf w0
  exact ⟨⟨k, z⟩, ⟨hk, b.1, b.2⟩, rfl⟩
end
end Go.Proofs.Ytpdepbakopdgpaa
namespace Go.Proofs.Ytpdepbakopdgpaa
open Go.RowKit
set_option linter.unusedVariables false
set_option linter.unusedSimpArgs false
theorem load_id_at {w : World} {b o : Nat} {k : IdK} (hk : k.ok) (h : w.rangeAt b o k.c) : (Instr.loadAt 32 (.pointer (some ⟨b, o, none⟩))).run Try.prog w = .ok k.v w :=
  run_loadAt_mid (P := Try.prog) w b o 32 k.c _ h Try.underlying32 rfl (by rw [IdK.len hk]; exact szId)
theorem same_ids (a b : Option Addr) (ca cb : Nat) (A B : List IdK) (w : World) (hA : IdsAt w a A) (hB : IdsAt w b B) (oA : ∀ x ∈ A, x.ok) (oB : ∀ x ∈ B, x.ok) (lA : A.length ≤ 7000000000000) :
    Calls Try.prog 26 #[.slice a A.length ca, .slice b B.length cb] w fun e w' => e = .returned (.bool (decide (A = B))) ∧ Below w.heap.size w w' := by
  obtain ⟨n, hn⟩ : ∃ n, A.length = n := ⟨_, rfl⟩
  obtain ⟨m, hm⟩ : ∃ m, B.length = m := ⟨_, rfl⟩
  have HN := hidMk hn
  have HM := hidMk hm
  have HLA := hidMk lA
  rw [hn, hm]
  by_cases hnm : n = m
  · subst hnm
    clear hn hm lA
    go_enter Try.func26, Try.ntmps26
    go_wp2
    go_loopw [5] (fun v5 wr => ∃ i : Nat, v5 = .int .i64 (i : Int) ∧ i ≤ n ∧ A.take i = B.take i ∧ Below w.heap.size w wr) (fun v5 wr => n - (match v5 with | .int _ i => i.toNat | _ => 0))
    case atStart => exact ⟨0, rfl, Nat.zero_le _, rfl, Below.refl _ _⟩
    case round =>
      obtain ⟨i, rfl, hin, htk, bel⟩ := hrel
      have hLn := HN.out
      have hLm := HM.out
      by_cases hi : i < n
      · have hxi : A[i]? = some A[i] := List.getElem?_eq_getElem (by omega)
        have hyi : B[i]? = some B[i] := List.getElem?_eq_getElem (by omega)
        generalize A[i] = x at hxi
        generalize B[i] = y at hyi
        have hxo : x.ok := oA x (List.mem_of_getElem? hxi)
        have hyo : y.ok := oB y (List.mem_of_getElem? hyi)
        obtain ⟨b1, o1, rfl, lb1, r1⟩ : ∃ b1 o1, a = some ⟨b1, o1, none⟩ ∧ b1 < w.heap.size ∧ w.rangeAt b1 (o1 + i * 33) x.c := by
          rcases hA with rfl | ⟨b1, o1, e, h1, h2⟩
          · simp at hxi
          · exact ⟨b1, o1, e, h1, by rw [Nat.mul_comm]; exact h2 i x hxi⟩
        obtain ⟨b2, o2, rfl, lb2, r2⟩ : ∃ b1 o1, b = some ⟨b1, o1, none⟩ ∧ b1 < w.heap.size ∧ w.rangeAt b1 (o1 + i * 33) y.c := by
          rcases hB with rfl | ⟨b1, o1, e, h1, h2⟩
          · simp at hyi
          · exact ⟨b1, o1, e, h1, by rw [Nat.mul_comm]; exact h2 i y hyi⟩
        have bel' : Below w.heap.size w wr.drew := bel.drew
        have L1 := hidMk (load_id_at hxo (rangeAt_keep r1 (bel'.block _ lb1)))
        have L2 := hidMk (load_id_at hyo (rangeAt_keep r2 (bel'.block _ lb2)))
        have HT := hidMk htk
        have HX := hidMk (And.intro hxi hyi)
        clear htk hxi hyi r1 r2 hLn hLm
        go_upto_region 6 with fail
        refine wp_region_still_tail 8 (by kernel_rfl) (by kernel_rfl) ?_
        simp only [List.take_succ_cons, List.take_zero, List.drop_succ_cons, List.drop_zero]
        change wpStill _ _ wr.drew (fun a' => wpList _ _ _ _ a' wr.drew) _ _
        generalize wr.drew = wd at *
        iterate 3 still_step
        refine still_val rfl (exec_load (t := 32) (u := .pointer (some ⟨b1, o1 + i * 33, none⟩)) rfl rfl L1.out) ?_
        simp only [Act.put, List.setIfInBounds_toArray, List.set_cons_zero, List.set_cons_succ]
        iterate 3 still_step
        refine still_val rfl (exec_load (t := 32) (u := .pointer (some ⟨b2, o2 + i * 33, none⟩)) rfl rfl L2.out) ?_
        simp only [Act.put, List.setIfInBounds_toArray, List.set_cons_zero, List.set_cons_succ]
        refine wpStill_nil ?_
        refine wpList_val rfl (exec_binOp (xv := x.v) (yv := y.v) rfl rfl rfl (guard_id _ _ x y _ _) (neq_id x y hxo hyo _)) ?_
        simp only [Act.put, List.setIfInBounds_toArray, List.set_cons_zero, List.set_cons_succ]
        by_cases hxy : x = y
        · subst hxy
          simp only [decide_true, Bool.not_true]
          go_wp2
          have hwr : Go.RowKit.wrap64 ((i : Int) + 1) = ((i + 1 : Nat) : Int) := by
            have := HLA.out
            have := HN.out
            unfold Go.RowKit.wrap64
            omega
          rw [hwr]
          refine ⟨⟨i + 1, rfl, hi, ?_, bel'⟩, ?_⟩
          · rw [List.take_add_one, List.take_add_one, HX.out.1, HX.out.2, HT.out]
          · show n - ((i + 1 : Nat) : Int).toNat < n - (i : Int).toNat
            omega
        · have hd : decide (x = y) = false := by simpa using hxy
          rw [hd]
          simp only [Bool.not_false]
          go_wp2
          go_ret
          refine ⟨?_, bel'⟩
          have : A ≠ B := fun e => by
            rw [e] at HX
            exact hxy (Option.some.inj (HX.out.1.symm.trans HX.out.2))
          simp [this]
      · obtain rfl : i = n := by omega
        have hAB : A = B := by rw [List.take_of_length_le (by omega), List.take_of_length_le (by omega)] at htk; exact htk
        have HAB := hidMk hAB
        clear hAB htk hLn hLm hin
        go_wp2
        go_ret
        exact ⟨by simp [HAB.out], bel⟩
  · have hne : A ≠ B := fun e => hnm (by rw [← hn, ← hm, e])
    have hnm2 : ((n : Int) == (m : Int)) = false := by simp; omega
    have hnm3 : ((n : Int) != (m : Int)) = true := by simp; omega
    have HNE := hidMk hne
    clear hn hm hne hnm
    go_enter Try.func26, Try.ntmps26
    go_wp2
    go_ret
    exact ⟨by simp [HNE.out], Below.refl _ _⟩
end Go.Proofs.Ytpdepbakopdgpaa
namespace Go.Proofs.Ytpdepbakopdgpaa
open Go.ChangeShapes Go.WideShapes Go.ChangeAt Go.RowKit
set_option linter.unusedVariables false
set_option linter.unusedSimpArgs false
structure OpV where
  kind : Int
  which : Int
  id : IdK
  bh : IdK
  sh : Bool
  n : Int
def OpV.c (o : OpV) : List Value := (.int .i64 o.kind) :: (.int .i64 o.which) :: (o.id.c ++ (o.bh.c ++ [.bool o.sh, .int .i64 o.n]))
structure OpV.ok (o : OpV) : Prop where
  id : o.id.ok
  bh : o.bh.ok
  kind : -9223372036854775808 ≤ o.kind ∧ o.kind ≤ 9223372036854775807
  which : -9223372036854775808 ≤ o.which ∧ o.which ≤ 9223372036854775807
  n : -9223372036854775808 ≤ o.n ∧ o.n ≤ 9223372036854775807
theorem OpV.len {o : OpV} (h : o.ok) : o.c.length = 70 := by
  have h1 := IdK.len h.id
  have h2 := IdK.len h.bh
  simp [OpV.c, h1, h2]
theorem OpV.one (o : OpV) : ∀ v ∈ o.c, v.oneCell' = true := by
  intro v hv
  simp only [OpV.c, List.mem_cons, List.mem_append, List.not_mem_nil, or_false] at hv
  rcases hv with rfl | rfl | h | h | rfl | rfl
  · rfl
  · rfl
  · exact IdK.one _ v h
  · exact IdK.one _ v h
  · rfl
  · rfl
def zOp : OpV := ⟨0, 0, zId, zId, false, 0⟩
theorem zOp_ok : zOp.ok := ⟨zId_ok, zId_ok, by decide, by decide, by decide⟩
theorem cells_op : Try.prog.cellsOf 34 = 70 := by kernel_rfl
theorem cells_bool : Try.prog.cellsOf 4 = 1 := by kernel_rfl
theorem op_cells {H : Type} {enc : TypeId × Value → H} {W : World} (fuel : Nat) (cs : List Value) (y : DataW H × List MemPlace) (h : DataW.trod enc Try.prog W 0 (fun _ => true) true fuel 34 cs = some y) : ∃ x : OpV, x.ok ∧ cs = x.c := by
  obtain ⟨xs, n, _, hx, hcl, hlen, hfs⟩ := DataW.trod_struct Try.underlying34 h
  rw [cells_op] at hcl
  have hlen : xs.length = 6 := hlen
  obtain ⟨A, R, rfl, hA, hR⟩ := list_split (n := 1) (m := 69) hcl
  obtain ⟨A2, R, rfl, hA2, hR⟩ := list_split (n := 1) (m := 68) hR
  obtain ⟨B, R, rfl, hB, hR⟩ := list_split (n := 33) (m := 35) hR
  obtain ⟨C, R, rfl, hC, hR⟩ := list_split (n := 33) (m := 2) hR
  obtain ⟨D, E, rfl, hD, hE⟩ := list_split (n := 1) (m := 1) hR
  match xs, hlen with
  | [y0, y1, y2, y3, y4, y5], _ =>
    have t0 : DataW.trod enc Try.prog W 0 (fun _ => true) true n 3 (((A ++ (A2 ++ (B ++ (C ++ (D ++ E))))).drop 0).take (Try.prog.cellsOf 3)) = some y0 := hfs 0 _ rfl
    have t1 : DataW.trod enc Try.prog W 0 (fun _ => true) true n 3 (((A ++ (A2 ++ (B ++ (C ++ (D ++ E))))).drop 1).take (Try.prog.cellsOf 3)) = some y1 := hfs 1 _ rfl
    have t2 : DataW.trod enc Try.prog W 0 (fun _ => true) true n 32 (((A ++ (A2 ++ (B ++ (C ++ (D ++ E))))).drop 2).take (Try.prog.cellsOf 32)) = some y2 := hfs 2 _ rfl
    have t3 : DataW.trod enc Try.prog W 0 (fun _ => true) true n 32 (((A ++ (A2 ++ (B ++ (C ++ (D ++ E))))).drop 35).take (Try.prog.cellsOf 32)) = some y3 := hfs 3 _ rfl
    have t4 : DataW.trod enc Try.prog W 0 (fun _ => true) true n 4 (((A ++ (A2 ++ (B ++ (C ++ (D ++ E))))).drop 68).take (Try.prog.cellsOf 4)) = some y4 := hfs 4 _ rfl
    have t5 : DataW.trod enc Try.prog W 0 (fun _ => true) true n 3 (((A ++ (A2 ++ (B ++ (C ++ (D ++ E))))).drop 69).take (Try.prog.cellsOf 3)) = some y5 := hfs 5 _ rfl
    rw [cells_int, List.drop_zero] at t0
    rw [cells_int] at t1 t5
    rw [cells_id] at t2 t3
    rw [cells_bool] at t4
    have e0 : (A ++ (A2 ++ (B ++ (C ++ (D ++ E))))).take 1 = A := by rw [← hA, List.take_left]
    have e1 : ((A ++ (A2 ++ (B ++ (C ++ (D ++ E))))).drop 1).take 1 = A2 := by
      rw [show ((A ++ (A2 ++ (B ++ (C ++ (D ++ E))))).drop 1) = A2 ++ (B ++ (C ++ (D ++ E))) by rw [← hA, List.drop_left], ← hA2, List.take_left]
    have e2 : ((A ++ (A2 ++ (B ++ (C ++ (D ++ E))))).drop 2).take 33 = B := by
      rw [show 2 = A.length + A2.length by omega, ← List.drop_drop, List.drop_left, List.drop_left, ← hB, List.take_left]
    have e3 : ((A ++ (A2 ++ (B ++ (C ++ (D ++ E))))).drop 35).take 33 = C := by
      rw [show 35 = A.length + A2.length + B.length by omega, ← List.drop_drop, ← List.drop_drop, List.drop_left, List.drop_left, List.drop_left, ← hC, List.take_left]
    have e4 : ((A ++ (A2 ++ (B ++ (C ++ (D ++ E))))).drop 68).take 1 = D := by
      rw [show 68 = A.length + A2.length + B.length + C.length by omega, ← List.drop_drop, ← List.drop_drop, ← List.drop_drop, List.drop_left, List.drop_left, List.drop_left, List.drop_left, ← hD, List.take_left]
    have e5 : ((A ++ (A2 ++ (B ++ (C ++ (D ++ E))))).drop 69).take 1 = E := by
      rw [show 69 = A.length + A2.length + B.length + C.length + D.length by omega, ← List.drop_drop, ← List.drop_drop, ← List.drop_drop, ← List.drop_drop, List.drop_left, List.drop_left, List.drop_left, List.drop_left, List.drop_left, List.take_of_length_le (by omega)]
    rw [e0] at t0
    rw [e1] at t1
    rw [e2] at t2
    rw [e3] at t3
    rw [e4] at t4
    rw [e5] at t5
    obtain ⟨z0, q0, _, w0⟩ := DataW.trod_int Try.underlying3 t0
    obtain ⟨z1, q1, _, w1⟩ := DataW.trod_int Try.underlying3 t1
    obtain ⟨x2, o2, q2⟩ := id_cells t2
    obtain ⟨x3, o3, q3⟩ := id_cells t3
    obtain ⟨s4, q4, _⟩ := DataW.trod_bool Try.underlying4 t4
    obtain ⟨z5, q5, _, w5⟩ := DataW.trod_int Try.underlying3 t5
    subst q0 q1 q2 q3 q4 q5
    exact ⟨⟨z0, z1, x2, x3, s4, z5⟩, ⟨o2, o3, i64_wf w0, i64_wf w1, i64_wf w5⟩, rfl⟩
def OpsAt (w : World) (a : Option Addr) (L : List OpV) : Prop := RowAt 70 OpV.c w a L
theorem OpsAt.below {w w' : World} {a : Option Addr} {L : List OpV} (h : OpsAt w a L) (hb : Below w.heap.size w w') : OpsAt w' a L := RowAt.below h hb
theorem OpsAt.get {w : World} {a : Option Addr} {l : List OpV} (h : OpsAt w a l) {i : Nat} (hi : i < l.length) : ∃ b o, a = some ⟨b, o, none⟩ ∧ b < w.heap.size ∧ w.rangeAt b (o + 70 * i) (l[i]).c := by
  rcases h with h | ⟨b, off, e, hl, hr⟩
  · rw [h] at hi; cases hi
  · exact ⟨b, off, e, hl, by rw [Nat.mul_comm]; exact hr i _ (List.getElem?_eq_getElem hi)⟩
theorem view_ops {H : Type} {enc : TypeId × Value → H} {W : World} {a : Option Addr} {len cap : Nat} {d : DataW H} {p : List MemPlace} (h : DataW.Trod enc Try.prog W 0 (fun _ => true) true 22 (.slice a len cap) d p) :
    ∃ L : List OpV, L.length = len ∧ (∀ x ∈ L, x.ok) ∧ OpsAt W a L ∧ (d = .nil ∧ len = 0 ∨ ∃ el sp, d = .slice el sp ∧ el.length = len) :=
  view_rows Try.underlying22 cells_op (by omega) (fun x hx => OpV.len hx) op_cells h
theorem bytes_op : Try.prog.bytesOf 34 = 112 := by kernel_rfl
theorem szOp : (Try.prog.info? 34).map (·.size) = some 70 := by kernel_rfl
theorem ix_op {b o m c i : Nat} (hi : i < m) (hm : m ≤ 1400000000000) (W : World) : (Instr.indexAt 22 (.slice (some ⟨b, o, none⟩) m c) (.int .i64 (i : Int))).run Try.prog W = .ok (.pointer (some ⟨b, o + 70 * i, none⟩)) W := by
  have h2 : m ≤ 9223372036854775807 := by omega
  rw [Nat.mul_comm]
  go_simp
theorem fg_34_0 (b o : Nat) (w : World) : (Instr.fieldAt 34 (.pointer (some ⟨b, o, none⟩)) 0).run Try.prog w = .ok (.pointer (some ⟨b, o + 0, none⟩)) w := by go_simp
theorem fg_34_1 (b o : Nat) (w : World) : (Instr.fieldAt 34 (.pointer (some ⟨b, o, none⟩)) 1).run Try.prog w = .ok (.pointer (some ⟨b, o + 1, none⟩)) w := by go_simp
theorem fg_34_2 (b o : Nat) (w : World) : (Instr.fieldAt 34 (.pointer (some ⟨b, o, none⟩)) 2).run Try.prog w = .ok (.pointer (some ⟨b, o + 2, none⟩)) w := by go_simp
theorem fg_34_3 (b o : Nat) (w : World) : (Instr.fieldAt 34 (.pointer (some ⟨b, o, none⟩)) 3).run Try.prog w = .ok (.pointer (some ⟨b, o + 35, none⟩)) w := by go_simp
theorem fg_34_4 (b o : Nat) (w : World) : (Instr.fieldAt 34 (.pointer (some ⟨b, o, none⟩)) 4).run Try.prog w = .ok (.pointer (some ⟨b, o + 68, none⟩)) w := by go_simp
theorem fg_34_5 (b o : Nat) (w : World) : (Instr.fieldAt 34 (.pointer (some ⟨b, o, none⟩)) 5).run Try.prog w = .ok (.pointer (some ⟨b, o + 69, none⟩)) w := by go_simp
section
variable {w : World} {b o : Nat} {x : OpV}
theorem ld_op (hx : x.ok) (h : w.rangeAt b o x.c) : (Instr.loadAt 34 (.pointer (some ⟨b, o, none⟩))).run Try.prog w = .ok (.agg x.c.toArray) w :=
  run_loadAt_mid (P := Try.prog) w b o 34 x.c _ h Try.underlying34 rfl (by rw [OpV.len hx]; exact szOp)
theorem op_kind (h : w.rangeAt b o x.c) : (Instr.loadAt 3 (.pointer (some ⟨b, o + 0, none⟩))).run Try.prog w = .ok (.int .i64 x.kind) w := by
  have hc : w.cell? ⟨b, o + 0, none⟩ = some (.int .i64 x.kind) := h 0 _ rfl
  rw [Nat.add_zero] at hc
  go_simp
theorem op_which (h : w.rangeAt b o x.c) : (Instr.loadAt 3 (.pointer (some ⟨b, o + 1, none⟩))).run Try.prog w = .ok (.int .i64 x.which) w := by
  have hc : w.cell? ⟨b, o + 1, none⟩ = some (.int .i64 x.which) := h 1 _ rfl
  go_simp
theorem op_id (hx : x.ok) (h : w.rangeAt b o x.c) : (Instr.loadAt 32 (.pointer (some ⟨b, o + 2, none⟩))).run Try.prog w = .ok x.id.v w := by
  refine load_id_at hx.id (fun j v hv => ?_)
  have hl := (List.getElem?_eq_some_iff.1 hv).1
  have := h (2 + j) v (by rw [OpV.c, show 2 + j = (j + 1) + 1 by omega, List.getElem?_cons_succ, List.getElem?_cons_succ, List.getElem?_append_left hl]; exact hv)
  rwa [← Nat.add_assoc] at this
theorem op_bh (hx : x.ok) (h : w.rangeAt b o x.c) : (Instr.loadAt 32 (.pointer (some ⟨b, o + 35, none⟩))).run Try.prog w = .ok x.bh.v w := by
  refine load_id_at hx.bh (fun j v hv => ?_)
  have hl := (List.getElem?_eq_some_iff.1 hv).1
  have l1 := IdK.len hx.id
  have := h (35 + j) v (by
    rw [OpV.c, show 35 + j = (33 + j + 1) + 1 by omega, List.getElem?_cons_succ, List.getElem?_cons_succ, List.getElem?_append_right (by omega), l1, show 33 + j - 33 = j by omega, List.getElem?_append_left hl]
    exact hv)
  rwa [← Nat.add_assoc] at this
theorem op_sh (hx : x.ok) (h : w.rangeAt b o x.c) : (Instr.loadAt 4 (.pointer (some ⟨b, o + 68, none⟩))).run Try.prog w = .ok (.bool x.sh) w := by
  have l1 := IdK.len hx.id
  have l2 := IdK.len hx.bh
  have hc : w.cell? ⟨b, o + 68, none⟩ = some (.bool x.sh) := h 68 _ (by
    rw [OpV.c, List.getElem?_cons_succ, List.getElem?_cons_succ, List.getElem?_append_right (by omega), l1, List.getElem?_append_right (by omega), l2]
    rfl)
  go_simp
theorem op_n (hx : x.ok) (h : w.rangeAt b o x.c) : (Instr.loadAt 3 (.pointer (some ⟨b, o + 69, none⟩))).run Try.prog w = .ok (.int .i64 x.n) w := by
  have l1 := IdK.len hx.id
  have l2 := IdK.len hx.bh
  have hc : w.cell? ⟨b, o + 69, none⟩ = some (.int .i64 x.n) := h 69 _ (by
    rw [OpV.c, List.getElem?_cons_succ, List.getElem?_cons_succ, List.getElem?_append_right (by omega), l1, List.getElem?_append_right (by omega), l2]
    rfl)
  go_simp
end
def OpBox (w : World) (b : Nat) (x : OpV) : Prop := w.heap[b]? = some (.cells x.c.toArray 34 (0, 0))
theorem OpBox.range {w : World} {b : Nat} {x : OpV} (h : OpBox w b x) : w.rangeAt b 0 x.c := cells_range h
theorem OpBox.keep {w w' : World} {b : Nat} {x : OpV} (h : OpBox w b x) (e : w'.heap[b]? = w.heap[b]?) : OpBox w' b x := e.trans h
theorem OpBox.lt {w : World} {b : Nat} {x : OpV} (h : OpBox w b x) : b < w.heap.size := (Array.getElem?_eq_some_iff.1 h).1
theorem zeroOp (w : World) : (zeroValue 34).run Try.prog w = .ok (.agg zOp.c.toArray) w := by kernel_rfl
theorem op_zero (w : World) : (Instr.alloc 34 true (.tuple #[])).run Try.prog w = .ok (.pointer (some ⟨w.heap.size, 0, none⟩)) (w.alloc (.cells zOp.c.toArray 34)) := by
  simp only [Instr.alloc, newVar, newRow, newObj, Sem.run_bind, zeroOp, Result.andThen_ok, Value.cells]
  rfl
theorem store_op {w : World} {b : Nat} {x u : OpV} (hx : x.ok) (hu : u.ok) (h : OpBox w b x) : (Instr.storeAt 34 (.pointer (some ⟨b, 0, none⟩)) (.agg u.c.toArray)).run Try.prog w = .ok () (w.setRow b u.c.toArray) := by
  have e2 := run_storeVar_row (P := Try.prog) w b 34 34 x.c.toArray u.c.toArray h (by rw [List.size_toArray, OpV.len hu]; exact szOp)
    (by rw [List.size_toArray, List.size_toArray, OpV.len hu, OpV.len hx]) (by rw [List.all_toArray, List.all_eq_true]; exact u.one)
  simp only [Instr.storeAt, Instr.sureAddr, Sem.run_bind, Sem.run_pure, Result.andThen_ok, e2]
theorem box_new {w : World} {u : OpV} (hu : u.ok) : ∃ w', (Instr.storeAt 34 (.pointer (some ⟨w.heap.size, 0, none⟩)) (.agg u.c.toArray)).run Try.prog (w.alloc (.cells zOp.c.toArray 34)) = .ok () w' ∧ OpBox w' w.heap.size u ∧ Below w.heap.size w w' := by
  have hb : OpBox (w.alloc (.cells zOp.c.toArray 34)) w.heap.size zOp := heap_alloc_new _ _
  have bx : Below w.heap.size w (w.alloc (.cells zOp.c.toArray 34)) := (Below.refl _ _).alloc (Nat.le_refl _) _
  exact ⟨_, store_op zOp_ok hu hb, setRow_heap _ _ _ _ _ _ hb, bx.trans (set_below _ bx.size (Nat.le_refl _))⟩
theorem idbox_new {w : World} {u : IdK} (hu : u.ok) : ∃ w', (Instr.storeAt 32 (.pointer (some ⟨w.heap.size, 0, none⟩)) u.v).run Try.prog (w.alloc (.cells zId.c.toArray 32)) = .ok () w' ∧ IdAt w' w.heap.size u ∧ Below w.heap.size w w' := by
  have hb := id_new w zId
  have bx : Below w.heap.size w (w.alloc (.cells zId.c.toArray 32)) := (Below.refl _ _).alloc (Nat.le_refl _) _
  exact ⟨_, store_id zId_ok hu hb, hb.set u, bx.trans (set_below _ bx.size (Nat.le_refl _))⟩
end Go.Proofs.Ytpdepbakopdgpaa
namespace Go.Proofs.Ytpdepbakopdgpaa
open Go.ChangeShapes Go.WideShapes Go.ChangeAt Go.RowKit
set_option linter.unusedVariables false
theorem reach_ops {H : Type} {ts : List TypeId} {ds : List (DataW H)} (hsz : (DataW.weightsEach Try.prog ts ds).all (· ≤ reachBytes) = true) (j : Nat) (ht : ts[j]? = some 22) {d : DataW H} (hd : ds[j]? = some d) {len : Nat}
    (h : d = .nil ∧ len = 0 ∨ ∃ el sp, d = .slice el sp ∧ el.length = len) : len ≤ 1256584717422 := by
  rcases h with ⟨_, rfl⟩ | ⟨el, sp, rfl, rfl⟩
  · omega
  · have := sized_slice hsz (j := j) (t := 22) (e := 34) ht hd Try.underlying22
    rw [bytes_op] at this
    simp only [reachBytes] at this
    omega
end Go.Proofs.Ytpdepbakopdgpaa
namespace Go.Proofs.Ytpdepbakopdgpaa
open Go.RowKit Sq
set_option linter.unusedVariables false
set_option linter.unusedSimpArgs false
theorem exec_box {P : Program} {w w2 : World} {a : Act} {o : Oper} {t : TypeId} {x : Operand} {xv v : Value} (ho : o.op = .box t x) (hx : a.eval x = xv) (hl : (Instr.box t xv).run P w = .ok v w2) : (execOp a.eval o).run P w = .ok (.value v) w2 := by
  unfold execOp; simp only [ho, hx, Sem.run_bind, hl, Result.andThen_ok, Sem.run_pure]
theorem build_seq (m : Option Nat) (s : Value) (h : s.oneCell' = true) (w : World) : (Instr.build 70 #[(0, .map m), (1, .agg #[s])]).run Try.prog w = .ok (.agg #[.map m, s]) w := by go_simp
theorem box_seq (m : Option Nat) (s : Value) (w : World) : (Instr.box 70 (.agg #[.map m, s])).run Try.prog w = .ok (.pointer (some ⟨w.heap.size, 0, none⟩)) (w.alloc (.cells #[.map m, s] 70)) := by go_simp
theorem ex_bseq {w : World} {a : Act} {o : Oper} {x y : Operand} {m : Option Nat} {s : Value} (ho : o.op = .build 70 #[(0, x), (1, y)]) (hx : a.eval x = .map m) (hy : a.eval y = .agg #[s]) (h : s.oneCell' = true) : (execOp a.eval o).run Try.prog w = .ok (.value (.agg #[.map m, s])) w :=
  exec_build ho (by simp [hx, hy]) (build_seq m s h w)
theorem box_seq_at {m : Option Nat} {s : Value} {w : World} {bb : Nat} (h : bb = w.heap.size) : (Instr.box 70 (.agg #[.map m, s])).run Try.prog w = .ok (.pointer (some ⟨bb, 0, none⟩)) (w.alloc (.cells #[.map m, s] 70)) := by subst h; exact box_seq m s w
def fork3_o0 : Oper := ⟨some 5, .move (.tmp 0), 23, "seq.go:32", #[], none⟩
def fork3_o1 : Oper := ⟨some 6, .nilCheck (.tmp 5), 0, "seq.go:32", #[⟨0, .data⟩], none⟩
def fork3_o2 : Oper := ⟨some 7, .fieldAddr 70 (.tmp 6) 0, 0, "seq.go:32", #[⟨1, .data⟩], none⟩
def fork3_o3 : Oper := ⟨some 8, .load 62 (.tmp 7), 62, "seq.go:32", #[⟨2, .data⟩], none⟩
def fork3_o4 : Oper := ⟨some 9, .call { callee := Callee.value (Operand.func 42), args := #[.tmp 8], argTypes := #[62] }, 62, "seq.go:32", #[⟨3, .data⟩], none⟩
def fork3_o5 : Oper := ⟨some 10, .move (.tmp 0), 23, "seq.go:32", #[], none⟩
def fork3_o6 : Oper := ⟨some 11, .nilCheck (.tmp 10), 0, "seq.go:32", #[⟨5, .data⟩], none⟩
def fork3_o7 : Oper := ⟨some 12, .fieldAddr 70 (.tmp 11) 1, 0, "seq.go:32", #[⟨6, .data⟩], none⟩
def fork3_o8 : Oper := ⟨some 13, .call { callee := Callee.value (Operand.func 43), args := #[.tmp 12], argTypes := #[65] }, 65, "seq.go:32", #[⟨7, .data⟩, ⟨4, .chain⟩], none⟩
def fork3_o9 : Oper := ⟨some 14, .build 70 #[(0, .tmp 9), (1, .tmp 13)], 70, "seq.go:32", #[⟨4, .data⟩, ⟨8, .data⟩], none⟩
def fork3_o10 : Oper := ⟨some 15, .box 70 (.tmp 14), 23, "seq.go:32", #[⟨9, .data⟩], none⟩
def fork3_o11 : Oper := ⟨some 2, .assign (.tmp 15), 23, "seq.go:32", #[⟨10, .data⟩, ⟨8, .chain⟩, ⟨0, .phase⟩, ⟨1, .phase⟩, ⟨2, .phase⟩, ⟨3, .phase⟩, ⟨4, .phase⟩, ⟨5, .phase⟩, ⟨6, .phase⟩, ⟨7, .phase⟩, ⟨8, .phase⟩, ⟨9, .phase⟩, ⟨10, .phase⟩], none⟩
def fork3_ops : Array Oper := #[fork3_o0, fork3_o1, fork3_o2, fork3_o3, fork3_o4, fork3_o5, fork3_o6, fork3_o7, fork3_o8, fork3_o9, fork3_o10, fork3_o11]
theorem fork3 {sb mb m2 n : Nat} (S : World → Prop) (Fin : Nat → Nat → Nat → World → Prop) (a : Act) (w : World) (Q : Exit → Act → World → Prop) (zz : a.tmps.size = 16)
    (t0 : a.tmps.getD 0 undef = .pointer (some ⟨sb, 0, none⟩))
    (h0 : S w.drew) (hc : ∀ X, S X → X.cell? ⟨sb, 0, none⟩ = some (.map (some mb))) (CM : Calls Try.prog 42 #[.map (some mb)] w.drew fun e w' => e = .returned (.map (some m2)) ∧ S w' ∧ Calls Try.prog 43 #[.pointer (some ⟨sb, 1, none⟩)] w' fun e2 w2 => ∃ g2 c2, e2 = .returned (.agg #[.slice (some ⟨g2, 0, none⟩) n c2]) ∧ S w2 ∧ ∃ bb, bb = w2.heap.size ∧ S (w2.alloc (.cells #[.map (some m2), .slice (some ⟨g2, 0, none⟩) n c2] 70)) ∧ Fin g2 c2 bb (w2.alloc (.cells #[.map (some m2), .slice (some ⟨g2, 0, none⟩) n c2] 70)))
    (h : ∀ (g2 c2 bb : Nat) (a' : Act) (w' : World), Fin g2 c2 bb w' → a' = ((((((((((((a).put (some 5) (.pointer (some ⟨sb, 0, none⟩))).put (some 6) (.pointer (some ⟨sb, 0, none⟩))).put (some 7) (.pointer (some ⟨sb, 0, none⟩))).put (some 8) (.map (some mb))).put (some 10) (.pointer (some ⟨sb, 0, none⟩))).put (some 11) (.pointer (some ⟨sb, 0, none⟩))).put (some 12) (.pointer (some ⟨sb, 1, none⟩))).put (some 9) (.map (some m2))).put (some 13) (.agg #[.slice (some ⟨g2, 0, none⟩) n c2])).put (some 14) (.agg #[.map (some m2), .slice (some ⟨g2, 0, none⟩) n c2])).put (some 15) (.pointer (some ⟨bb, 0, none⟩))).put (some 2) (.pointer (some ⟨bb, 0, none⟩)) → Q .normal a' w') :
    (Code.region 3 fork3_ops true).wp Try.prog Q a w := by
  refine y0 (fun w' => S w') (h0) (fun hHeld => ?_)
  refine yv 0 rfl rfl (fun w1 hw => exec_move rfl (zi t0 rfl)) hHeld ?_
  refine yv 1 rfl rfl (fun w1 hw => exec_nilCheck rfl (zg zz rfl)) hHeld ?_
  refine yv 2 rfl rfl (fun w1 hw => exec_fieldAt rfl (zg zz rfl) (fg_70_0 _ _ _)) hHeld ?_
  refine yv 3 rfl rfl (fun w1 hw => exec_load rfl (zg zz rfl) (ld_map (hc _ hw))) hHeld ?_
  refine yv 5 rfl rfl (fun w1 hw => exec_move rfl (zi t0 rfl)) hHeld ?_
  refine yv 6 rfl rfl (fun w1 hw => exec_nilCheck rfl (zg zz rfl)) hHeld ?_
  refine yv 7 rfl rfl (fun w1 hw => exec_fieldAt rfl (zg zz rfl) (fg_70_1 _ _ _)) hHeld ?_
  refine yc 4 rfl rfl (exec_c1 rfl (zg zz rfl)) (CM) (fun e x4 hx => ?_)
  obtain ⟨rfl, S1, HC⟩ := hx
  refine ⟨_, rfl, S1, fun hHeld => ?_⟩
  refine yc 8 rfl rfl (exec_c1 rfl (zg zz rfl)) (HC) (fun e x8 hx => ?_)
  obtain ⟨g2, c2, rfl, S2, bb, hbb, HF⟩ := hx
  replace h := h g2 c2 bb
  refine ⟨_, rfl, S2, fun hHeld => ?_⟩
  refine yv (v := .agg #[.map (some m2), .slice (some ⟨g2, 0, none⟩) n c2]) 9 rfl rfl (fun w1 hw => ex_bseq rfl (zg zz rfl) (zg zz rfl) rfl) hHeld ?_
  refine yr (v := .pointer (some ⟨bb, 0, none⟩)) 10 rfl rfl (exec_box rfl (zg zz rfl) (box_seq_at hbb)) (HF.1) (fun hHeld => ?_)
  refine yv 11 rfl rfl (fun w1 hw => exec_assign rfl (zg zz rfl)) hHeld ?_
  exact ye rfl (h _ _ (HF.2) rfl)
def hasn1_o0 : Oper := ⟨some 5, .move (.tmp 0), 23, "seq.go:135", #[], none⟩
def hasn1_o1 : Oper := ⟨some 6, .binOp BinOp.neq 23 (.tmp 5) (Operand.const (Value.pointer none)) 23, 4, "seq.go:135", #[⟨0, .data⟩], none⟩
def hasn1_o2 : Oper := ⟨some 7, .move (.tmp 6), 4, "seq.go:135", #[⟨1, .data⟩], none⟩
def hasn1_o3 : Oper := ⟨some 8, .move (.tmp 0), 23, "seq.go:135", #[⟨2, .guard⟩], some (2, true)⟩
def hasn1_o4 : Oper := ⟨some 9, .nilCheck (.tmp 8), 0, "seq.go:135", #[⟨3, .data⟩, ⟨2, .guard⟩], some (2, true)⟩
def hasn1_o5 : Oper := ⟨some 10, .fieldAddr 70 (.tmp 9) 0, 0, "seq.go:135", #[⟨4, .data⟩, ⟨2, .guard⟩], some (2, true)⟩
def hasn1_o6 : Oper := ⟨some 11, .load 62 (.tmp 10), 62, "seq.go:135", #[⟨5, .data⟩, ⟨2, .guard⟩], some (2, true)⟩
def hasn1_o7 : Oper := ⟨some 12, .load 32 (.tmp 3), 32, "seq.go:135", #[⟨2, .guard⟩], some (2, true)⟩
def hasn1_o8 : Oper := ⟨some 13, .lookup 62 (.tmp 11) (.tmp 12) false, 3, "seq.go:135", #[⟨6, .data⟩, ⟨7, .data⟩, ⟨2, .guard⟩], some (2, true)⟩
def hasn1_o9 : Oper := ⟨some 14, .binOp BinOp.neq 3 (.tmp 13) (Operand.const (Value.int IntKind.i64 0)) 3, 4, "seq.go:135", #[⟨8, .data⟩, ⟨2, .guard⟩], some (2, true)⟩
def hasn1_o10 : Oper := ⟨some 15, .pick (.tmp 7) (.tmp 14) (Operand.const (Value.bool false)), 4, "seq.go:135", #[⟨2, .data⟩, ⟨9, .data⟩], none⟩
def hasn1_o11 : Oper := ⟨some 4, .assign (.tmp 15), 4, "seq.go:135", #[⟨10, .data⟩, ⟨2, .chain⟩, ⟨0, .phase⟩, ⟨1, .phase⟩, ⟨2, .phase⟩, ⟨3, .phase⟩, ⟨4, .phase⟩, ⟨5, .phase⟩, ⟨6, .phase⟩, ⟨7, .phase⟩, ⟨8, .phase⟩, ⟨9, .phase⟩, ⟨10, .phase⟩], none⟩
def hasn1_ops : Array Oper := #[hasn1_o0, hasn1_o1, hasn1_o2, hasn1_o3, hasn1_o4, hasn1_o5, hasn1_o6, hasn1_o7, hasn1_o8, hasn1_o9, hasn1_o10, hasn1_o11]
theorem hasn1  (a : Act) (w : World) (Q : Exit → Act → World → Prop) (zz : a.tmps.size = 16)
    (t0 : a.tmps.getD 0 undef = .pointer none)
    (h : ∀ (a' : Act) (w' : World), w' = w.drew → a' = ((((((((((((a).put (some 5) (.pointer none)).put (some 6) (.bool false)).put (some 7) (.bool false)).put (some 8) (undef)).put (some 9) (undef)).put (some 10) (undef)).put (some 11) (undef)).put (some 12) (undef)).put (some 13) (undef)).put (some 14) (undef)).put (some 15) (.bool false)).put (some 4) (.bool false) → Q .normal a' w') :
    (Code.region 1 hasn1_ops true).wp Try.prog Q a w := by
  refine y0 (fun w' => w' = w.drew) (rfl) (fun hHeld => ?_)
  refine yv 0 rfl rfl (fun w1 hw => exec_move rfl (zi t0 rfl)) hHeld ?_
  refine yv (v := .bool false) 1 rfl rfl (fun w1 hw => zu1 (zg (i := 5) zz rfl) (fun b t5 => by show (execOp b.eval hasn1_o1).run _ _ = _; unfold hasn1_o1; go_simp)) hHeld ?_
  refine yv 2 rfl rfl (fun w1 hw => exec_move rfl (zg zz rfl)) hHeld ?_
  refine yn 3 rfl (zx zz rfl rfl rfl (zg zz rfl)) hHeld ?_
  refine yn 4 rfl (zx zz rfl rfl rfl (zg zz rfl)) hHeld ?_
  refine yn 5 rfl (zx zz rfl rfl rfl (zg zz rfl)) hHeld ?_
  refine yn 6 rfl (zx zz rfl rfl rfl (zg zz rfl)) hHeld ?_
  refine yn 7 rfl (zx zz rfl rfl rfl (zg zz rfl)) hHeld ?_
  refine yn 8 rfl (zx zz rfl rfl rfl (zg zz rfl)) hHeld ?_
  refine yn 9 rfl (zx zz rfl rfl rfl (zg zz rfl)) hHeld ?_
  refine yv 10 rfl rfl (fun w1 hw => exec_pickF rfl (zg zz rfl) rfl) hHeld ?_
  refine yv 11 rfl rfl (fun w1 hw => exec_assign rfl (zg zz rfl)) hHeld ?_
  exact ye rfl (h _ _ (hHeld) rfl)
def finn2_o0 : Oper := ⟨some 11, .build 32 #[], 32, "seq.go:175", #[], none⟩
def finn2_o1 : Oper := ⟨none, .store 32 (.tmp 6) (.tmp 11), 0, "seq.go:175", #[⟨0, .data⟩, ⟨0, .phase⟩], none⟩
def finn2_o2 : Oper := ⟨some 7, .assign (Operand.const (Value.bool false)), 4, "seq.go:175", #[⟨1, .chain⟩, ⟨0, .phase⟩, ⟨1, .phase⟩], none⟩
def finn2_ops : Array Oper := #[finn2_o0, finn2_o1, finn2_o2]
theorem finn2 {rb : Nat} {w2 : World} (a : Act) (w : World) (Q : Exit → Act → World → Prop) (zz : a.tmps.size = 27)
    (t6 : a.tmps.getD 6 undef = .pointer (some ⟨rb, 0, none⟩))
    (E1 : (Instr.storeAt 32 (.pointer (some ⟨rb, 0, none⟩)) zId.v).run Try.prog w = .ok () w2)
    (h : ∀ (a' : Act) (w' : World), w' = w2 → a' = ((a).put (some 11) (zId.v)).put (some 7) (.bool false) → Q .normal a' w') :
    (Code.region 2 finn2_ops false).wp Try.prog Q a w := by
  refine z0 rfl ?_
  refine zv rfl (exec_build0 rfl (build_id _)) ?_
  refine zs rfl (exec_store rfl (zi t6 rfl) (zg zz rfl) E1) ?_
  refine zv rfl (exec_assign rfl rfl) ?_
  exact ze rfl (h _ _ (rfl) rfl)
def behn1_o0 : Oper := ⟨some 6, .move (.tmp 0), 23, "seq.go:140", #[], none⟩
def behn1_o1 : Oper := ⟨some 7, .load 32 (.tmp 3), 32, "seq.go:140", #[], none⟩
def behn1_o2 : Oper := ⟨some 8, .call { callee := Callee.value (Operand.func 28), args := #[.tmp 6, .tmp 7], argTypes := #[23, 32] }, 4, "seq.go:140", #[⟨0, .data⟩, ⟨1, .data⟩], none⟩
def behn1_o3 : Oper := ⟨some 9, .unOp UnOp.not 4 (.tmp 8), 4, "seq.go:140", #[⟨2, .data⟩], none⟩
def behn1_ops : Array Oper := #[behn1_o0, behn1_o1, behn1_o2, behn1_o3]
theorem behn1 {dv : Value} {kb : Nat} {k : IdK} (Fin : World → Prop) (a : Act) (w : World) (Q : Exit → Act → World → Prop) (zz : a.tmps.size = 22)
    (t0 : a.tmps.getD 0 undef = dv)
    (t3 : a.tmps.getD 3 undef = .pointer (some ⟨kb, 0, none⟩))
    (hk : k.ok) (h0 : IdAt w kb k) (CH : Calls Try.prog 28 #[dv, k.v] w fun e w' => e = .returned (.bool false) ∧ Fin w')
    (h : ∀ (a' : Act) (w' : World), Fin w' → a' = ((((a).put (some 6) (dv)).put (some 7) (k.v)).put (some 8) (.bool false)).put (some 9) (.bool true) → Q .normal a' w') :
    (Code.region 1 behn1_ops false).wp Try.prog Q a w := by
  refine z0 rfl ?_
  refine zv rfl (exec_move rfl (zi t0 rfl)) ?_
  refine zv rfl (exec_load rfl (zi t3 rfl) (load_id hk h0)) ?_
  refine zc rfl (exec_c2 rfl (zg zz rfl) (zg zz rfl)) (CH) (fun e x2 hx => ?_)
  obtain ⟨rfl, HF⟩ := hx
  refine ⟨_, rfl, ?_⟩
  refine zv rfl (exec_not rfl (zg zz rfl)) ?_
  exact ze rfl (h _ _ (HF) rfl)
end Go.Proofs.Ytpdepbakopdgpaa
namespace Go.Proofs.Ytpdepbakopdgpaa
open Go.Shelf
def cloneM_ren : Go.Shelf.Ren := ⟨fun | 5 => 42 | 7 => 65 | n => n, fun | 23 => 62 | 25 => 32 | 3 => 3 | 4 => 4 | 20 => 20 | n => n, fun | n => n⟩
theorem cloneM : Go.Proofs.SlLaysW.n5 Try.prog cloneM_ren := {
  mixed := by kernel_rfl
  f5 := ⟨Try.f42.name, by decide, Try.func42.trans (congrArg some (by kernel_rfl))⟩
  f7 := Try.func65.trans (congrArg some (by kernel_rfl))
  t4 := Try.underlying4
  a4 := Try.isAgg4
  z4 := Try.sizeOf4
  v4 := Try.zeroValue4
  t20 := Try.underlying20
  a20 := Try.isAgg20
  z20 := Try.sizeOf20
  v20 := Try.zeroValue20
  t23 := Try.underlying62
  a23 := Try.isAgg62
  z23 := Try.sizeOf62
  v23 := Try.zeroValue62 }
end Go.Proofs.Ytpdepbakopdgpaa
namespace Go.Proofs.Ytpdepbakopdgpaa
open Go.RowKit Go.Shelf Sq
set_option linter.unusedVariables false
set_option linter.unusedSimpArgs false
theorem sclone_any {w : World} {rb ro g cap : Nat} {L : List Sp} (h : SqAt w rb ro g cap L) (h0 : 0 < L.length) : Calls Try.prog 66 #[.slice (some ⟨g, 0, none⟩) L.length cap] w fun e w' => ∃ g' cap', e = .returned (.slice (some ⟨g', 0, none⟩) L.length cap') ∧ w'.ownsRow w.heap.size 89 73 (.slice (some ⟨g', 0, none⟩) L.length cap') L.length (flatS L) ∧ Below w.heap.size w w' := by
  have hnil : ∀ W, (binOp .eql 63 (.slice (some ⟨g, 0, none⟩) L.length cap) (.slice none 0 0)).run Try.prog W = .ok (.bool false) W := fun W => Lib.run_eql_slice_some_nil W _ _ _ Try.underlying63
  have b0 : Below w.heap.size w (w.alloc (.cells #[] 89)) := (Below.refl _ _).alloc (Nat.le_refl _) _
  have o0 : (w.alloc (.cells #[] 89)).ownsRow w.heap.size 89 73 (.slice (some ⟨w.heap.size, 0, none⟩) 0 0) 0 [] := ⟨rfl, .inr ⟨w.heap.size, 0, #[], rfl, Nat.le_refl _, heap_alloc_new _ _, Nat.le_refl _, Nat.zero_le _, rfl, rfl⟩⟩
  obtain ⟨ii, hi, hz, hsz, hby⟩ := info_parts infoS
  have h1 : SqAt (w.alloc (.cells #[] 89)) rb ro g cap L := h.keep (b0.block _ h.lt.1) (b0.block _ h.lt.2)
  have hl := h.len
  have hnews : ∀ j u, (flatS L)[j]? = some u → (w.alloc (.cells #[] 89)).cell? ((⟨g, 0, none⟩ : Addr).add j) = some u := fun j u hj => by
    obtain ⟨cur, hg, _, _, hcs, ht⟩ := h1.blk
    rw [Addr.add_mid, Nat.zero_add, cell_of_row _ g _ cur _ (0, 0) hg]
    rw [← ht, List.getElem?_take] at hj
    split at hj
    · simpa using hj
    · cases hj
  obtain ⟨v2, w2, e2, o2, g2, q2⟩ := app_at (P := Try.prog) _ w.heap.size 63 63 89 ii _ 73 136 Try.underlying63 hi hz hsz hby zcellsS (by decide) _ 0 [] o0 ⟨g, 0, none⟩ L.length cap (flatS L) (by rw [flatS_len h.ok, Nat.mul_comm]) hnews (flatS_one L) (by unfold maxLen; omega) (by omega) b0.size
  rw [List.nil_append, Nat.zero_add] at o2
  have b2 : Below w.heap.size w w2 := b0.grown g2 b0.size (fun k hk => by simp [Value.ownBlock] at hk; omega)
  obtain ⟨n, hn⟩ : ∃ n, L.length = n := ⟨_, rfl⟩
  rw [hn] at hnil e2 o2 h0 ⊢
  have hv : ∃ g' cap', v2 = .slice (some ⟨g', 0, none⟩) n cap' := by
    rcases o2.2 with ⟨_, q⟩ | ⟨g', cap', cur, e, _⟩
    · omega
    · exact ⟨g', cap', e⟩
  obtain ⟨g', cap', rfl⟩ := hv
  have HP := hidMk (And.intro o2 b2)
  have HE := hidMk e2
  clear o2 b2 e2 g2 q2 hnews h1 o0 hn hl h
  go_enter Try.func66, Try.ntmps66
  go_wp2_with (first
    | (refine wapp rfl rfl rfl HE.out rfl ?_)
    | fail)
  go_ret
  exact ⟨g', cap', rfl, HP.out.1, HP.out.2⟩
theorem zero_row (w : World) : (Instr.alloc 65 true (.tuple #[])).run Try.prog w = .ok (.pointer (some ⟨w.heap.size, 0, none⟩)) (w.alloc (.cells #[.slice none 0 0] 65)) := by kernel_rfl
theorem st_row {w : World} {b : Nat} {u : Value} {a : Option Addr} {n c : Nat} (h : w.heap[b]? = some (.cells #[u] 65 (0, 0))) : ∃ w2, (Instr.storeAt 65 (.pointer (some ⟨b, 0, none⟩)) (.agg #[.slice a n c])).run Try.prog w = .ok () w2 ∧ w2.heap[b]? = some (.cells #[.slice a n c] 65 (0, 0)) ∧ Tch (fun j => j = b) w w2 ∧ w2.heap.size = w.heap.size := by
  have e2 := run_storeVar_row (P := Try.prog) w b 65 65 #[u] #[.slice a n c] h (by kernel_rfl) rfl (by simp [Value.oneCell'])
  refine ⟨w.setRow b #[.slice a n c], ?_, setRow_heap _ _ _ _ _ _ h, (setRow_tch w b _).mono (fun j _ e => by simpa using e.symm), by simp [World.setRow]⟩
  simp only [Instr.storeAt, Instr.sureAddr, Sem.run_bind, Sem.run_pure, Result.andThen_ok, e2]
theorem rclone_any {w : World} {rb ro g cap : Nat} {L : List Sp} (h : SqAt w rb ro g cap L) (h0 : 0 < L.length) : Calls Try.prog 43 #[.pointer (some ⟨rb, ro, none⟩)] w fun e w' => ∃ g' cap', e = .returned (.agg #[.slice (some ⟨g', 0, none⟩) L.length cap']) ∧ w'.ownsRow w.heap.size 89 73 (.slice (some ⟨g', 0, none⟩) L.length cap') L.length (flatS L) ∧ Below w.heap.size w w' := by
  have b0 : Below w.heap.size w (w.alloc (.cells #[.slice none 0 0] 65)) := (Below.refl _ _).alloc (Nat.le_refl _) _
  have hb0 := heap_alloc_new w (.cells #[.slice none 0 0] 65)
  have z0 : (w.alloc (.cells #[.slice none 0 0] 65)).heap.size = w.heap.size + 1 := by simp
  have h1 : SqAt (w.alloc (.cells #[.slice none 0 0] 65)) rb ro g cap L := h.keep (b0.block _ h.lt.1) (b0.block _ h.lt.2)
  have HC := hidMk (sclone_any h1 h0)
  have HLD := hidMk (R_sl h1)
  have hbd : ∀ (a : Option Addr) (n c : Nat) (W : World), (Instr.build 65 #[(0, .slice a n c)]).run Try.prog W = .ok (.agg #[.slice a n c]) W := fun a n c W => by go_simp
  obtain ⟨n, hn⟩ : ∃ n, L.length = n := ⟨_, rfl⟩
  rw [hn] at HC HLD ⊢
  clear h h1 hn h0
  go_enter Try.func43, Try.ntmps43
  go_upto_region 1 with (first
    | (refine wpList_run rfl (exec_alloc (t := 65) rfl (zero_row _)) ?_)
    | fail)
  generalize w.alloc (.cells #[.slice none 0 0] 65) = wx at *
  have HB := hidMk hb0
  have ZX := hidMk z0
  clear hb0 z0
  go_wp2_with (first
    | (refine wload wx rfl rfl rfl (by rw [Nat.add_zero] at HLD; exact HLD.out) rfl ?_)
    | (refine wload wx rfl rfl rfl HLD.out rfl ?_)
    | (go_at_call 66; refine HC.out.mono ?_; rintro e w1 ⟨g', cap', rfl, o1, b1⟩; have HO := hidMk (And.intro o1 b1); have hst := st_row (a := some ⟨g', 0, none⟩) (n := n) (c := cap') ((b1.block _ (by have := ZX.out; omega)).trans HB.out); obtain ⟨w2, e2, i2, t2, z2⟩ := hst; have HS := hidMk (And.intro e2 (And.intro i2 (And.intro t2 z2))); clear o1 b1 e2 i2 t2 z2 HC HLD)
    | (refine wstore w1 rfl rfl rfl rfl HS.out.1 rfl rfl ?_)
    | fail)
  obtain ⟨e2, i2, t2, z2⟩ := HS.out
  obtain ⟨o1, b1⟩ := HO.out
  have hl := run_loadVar_mid (P := Try.prog) _ w.heap.size 0 65 [Value.slice (some ⟨g', 0, none⟩) n cap'] _ (cells_range i2) Try.underlying65 rfl (by kernel_rfl)
  refine bodyPost_ret (results_c1 rfl rfl hl) rfl ?_
  have bb : Below w.heap.size w w2 := (b0.trans (b1.mono b0.size)).trans (t2.below (Nat.le_trans b0.size b1.size) (fun k e => by omega))
  refine ⟨g', cap', rfl, ⟨o1.1, ?_⟩, bb⟩
  rcases o1.2 with ⟨e, _⟩ | ⟨g3, cap3, cur, e, hb, hg, r1, r2, r3, r4⟩
  · cases e
  · cases e
    refine .inr ⟨g', cap', cur, rfl, Nat.le_trans b0.size hb, (t2.block g' (Array.getElem?_eq_some_iff.1 hg).1 (fun e => ?_)).trans hg, r1, r2, r3, r4⟩
    have := ZX.out
    omega
theorem M.MapAt.clone {κ : Type} {w : World} {b : Nat} {enc : κ → Value} {V : κ → Prop} {E : List (κ × Value)} (h : M.MapAt w b enc V E) : ∃ es clock, w.heap[b]? = some (.map es clock) ∧ M.MapAt (w.alloc (.map es clock)) w.heap.size enc V E := by
  obtain ⟨⟨es, c, hb, he, hs⟩, hn, hV⟩ := h
  exact ⟨es, c, hb, ⟨es, c, heap_alloc_new _ _, he, hs⟩, hn, hV⟩
theorem fork_any {w : World} {s : Sx} {E : List Elt} (h : SeqAt w s E) : Calls Try.prog 18 #[.pointer (some ⟨s.sb, 0, none⟩)] w fun e w' => ∃ s2 : Sx, e = .returned (.pointer (some ⟨s2.sb, 0, none⟩)) ∧ SeqAt w' s2 E ∧ (∀ j ∈ s2.bl, w.heap.size ≤ j) ∧ Below w.heap.size w w' := by
  have h0 : 0 < s.L.length := h.lk.good.pos
  obtain ⟨es, c, hmb, hmap⟩ := (show M.MapAt w.drew s.mb IdK.v IdK.ok (entM s.N) from h.map.below rfl).clone
  have CM := AnyW.maps_Clone cloneM s.mb es c w.drew hmb
  have bm : Below w.heap.size w (w.drew.alloc (.map es c)) := (Below.refl _ _).drew.alloc (Nat.le_refl _) _
  have zm : (w.drew.alloc (.map es c)).heap.size = w.heap.size + 1 := by simp
  have hm1 := h.below bm
  go_enter Try.func18, Try.ntmps18
  go_upto_region 3 with fail
  refine fork3 (sb := s.sb) (mb := s.mb) (m2 := w.heap.size) (n := s.L.length) (fun X => SeqAt X s E) (fun g2 c2 bb X => ∃ s2 : Sx, s2.sb = bb ∧ SeqAt X s2 E ∧ (∀ j ∈ s2.bl, w.heap.size ≤ j) ∧ Below w.heap.size w X) _ _ _ rfl rfl h.drew (fun X hX => hX.c0) (CM.mono fun e w' he => ?_) ?_
  · obtain ⟨rfl, rfl⟩ := he
    refine ⟨rfl, hm1, (rclone_any hm1.row h0).mono ?_⟩
    rintro e w2 ⟨g', cap', rfl, o2, b2⟩
    have z2 := b2.size
    have b3 : Below w2.heap.size w2 (w2.alloc (.cells #[.map (some w.heap.size), .slice (some ⟨g', 0, none⟩) s.L.length cap'] 70)) := (Below.refl _ _).alloc (Nat.le_refl _) _
    have bw2 : Below w.heap.size w w2 := bm.trans (b2.mono bm.size)
    have hq := heap_alloc_new w2 (.cells #[.map (some w.heap.size), .slice (some ⟨g', 0, none⟩) s.L.length cap'] 70)
    refine ⟨g', cap', rfl, hm1.below b2, _, rfl, (hm1.below b2).below b3, ⟨w2.heap.size, w.heap.size, g', cap', s.L, s.t, s.N⟩, rfl, ?_, ?_, bw2.trans (b3.mono bw2.size)⟩
    · have hrow : ∃ cur, w2.heap[g']? = some (.cells cur 89 (0, 0)) ∧ w.heap.size + 1 ≤ g' := by
        rcases o2.2 with ⟨e, _⟩ | ⟨g3, cap3, cur, e, hb, hg, _⟩
        · cases e
        · cases e; exact ⟨cur, hg, by rw [← zm]; exact hb⟩
      obtain ⟨cur, hcur, hge⟩ := hrow
      have hlt := (Array.getElem?_eq_some_iff.1 hcur).1
      refine ⟨(cell_of_row _ _ 0 _ _ _ hq).trans rfl, ⟨(cell_of_row _ _ 1 _ _ _ hq).trans rfl, ⟨o2.1, ?_⟩, h.row.ok, by show w2.heap.size ≠ g'; omega, h.row.len, _, _, hq⟩, hmap.below ((b3.block _ (by show w.heap.size < _; omega)).trans (b2.block _ (by show w.heap.size < _; omega))), ⟨by show w2.heap.size ≠ w.heap.size; omega, by show g' ≠ w.heap.size; omega⟩, ⟨h.lk.good, h.lk.e, h.lk.ok, h.lk.map, h.lk.zid, h.lk.fol⟩⟩
      rcases o2.2 with ⟨e, _⟩ | ⟨g3, cap3, cur3, e, hb, hg, r1, r2, r3, r4⟩
      · cases e
      · cases e
        exact .inr ⟨g', cap', cur3, rfl, Nat.zero_le _, (b3.block g' hlt).trans hg, r1, r2, r3, r4⟩
    · intro j hj
      have hge : w.heap.size + 1 ≤ g' := by
        rcases o2.2 with ⟨e, _⟩ | ⟨g3, cap3, cur, e, hb, hg, _⟩
        · cases e
        · cases e; rw [← zm]; exact hb
      simp only [Sx.bl, List.mem_cons, List.not_mem_nil, or_false] at hj
      rcases hj with rfl | rfl | rfl <;> omega
  · rintro g2 c2 bb a' w3 ⟨s2, rfl, H⟩ ha
    subst ha
    have HH := hidMk H
    clear H CM hm1 hmap hmb
    simp only [Act.put, List.setIfInBounds_toArray, List.set_cons_zero, List.set_cons_succ]
    go_wp2
    go_ret
    exact ⟨s2, rfl, HH.out⟩
theorem pnil_has (w : World) (k : IdK) : Calls Try.prog 28 #[.pointer none, k.v] w fun e w' => e = .returned (.bool false) ∧ Below w.heap.size w w' := by
  have bx : Below w.heap.size w (w.alloc (.cells k.c.toArray 32)) := (Below.refl _ _).alloc (Nat.le_refl _) _
  show Calls Try.prog 28 #[.pointer none, .agg k.c.toArray] w _
  go_enter Try.func28, Try.ntmps28
  go_upto_region 1 with fail
  generalize w.alloc (.cells k.c.toArray 32) = wx at *
  refine hasn1 _ _ _ rfl rfl ?_
  intro a' w1 hw ha
  subst ha
  obtain rfl : w1 = wx.drew := hw
  simp only [Act.put, List.setIfInBounds_toArray, List.set_cons_zero, List.set_cons_succ]
  have b2 : Below w.heap.size w wx.drew := bx.drew
  generalize wx.drew = w2 at *
  go_wp2
  go_ret
  exact ⟨rfl, b2⟩
theorem pnil_insert (w : World) (k b : IdK) : Calls Try.prog 12 #[.pointer none, k.v, b.v] w fun e w' => e = .returned (.int .i64 1) ∧ Below w.heap.size w w' := by
  obtain ⟨_, _, bx, _⟩ := two_boxes w k b
  show Calls Try.prog 12 #[.pointer none, .agg k.c.toArray, .agg b.c.toArray] w _
  go_enter Try.func12, Try.ntmps12
  go_wp2
  go_ret
  exact ⟨rfl, bx⟩
theorem pnil_take (w : World) (k : IdK) : Calls Try.prog 14 #[.pointer none, k.v] w fun e w' => e = .returned (.int .i64 1) ∧ Below w.heap.size w w' := by
  have bx : Below w.heap.size w (w.alloc (.cells k.c.toArray 32)) := (Below.refl _ _).alloc (Nat.le_refl _) _
  show Calls Try.prog 14 #[.pointer none, .agg k.c.toArray] w _
  go_enter Try.func14, Try.ntmps14
  go_wp2
  go_ret
  exact ⟨rfl, bx⟩
theorem pnil_show (w : World) (k : IdK) (s : Bool) : Calls Try.prog 16 #[.pointer none, k.v, .bool s] w fun e w' => e = .returned (.int .i64 1) ∧ Below w.heap.size w w' := by
  have bx : Below w.heap.size w (w.alloc (.cells k.c.toArray 32)) := (Below.refl _ _).alloc (Nat.le_refl _) _
  show Calls Try.prog 16 #[.pointer none, .agg k.c.toArray, .bool s] w _
  go_enter Try.func16, Try.ntmps16
  go_wp2
  go_ret
  exact ⟨rfl, bx⟩
theorem pnil_fork (w : World) : Calls Try.prog 18 #[.pointer none] w fun e w' => e = .returned (.pointer none) ∧ Below w.heap.size w w' := by
  go_enter Try.func18, Try.ntmps18
  go_wp2
  go_ret
  exact ⟨rfl, Below.refl _ _⟩
theorem pnil_len (w : World) : Calls Try.prog 29 #[.pointer none] w fun e w' => e = .returned (.int .i64 0) ∧ Below w.heap.size w w' := by
  have HM : Hid (Calls Try.prog 57 #[.pointer none, .int .i64 0] w fun e w' => e = .returned (.int .i64 0) ∧ Below w.heap.size w w') := by
    show Calls Try.prog 57 #[.pointer none, .int .i64 0] w _
    go_enter Try.func57, Try.ntmps57
    go_wp2
    go_ret
    exact ⟨rfl, Below.refl _ _⟩
  go_enter Try.func29, Try.ntmps29
  go_wp2_with (first
    | (go_at_call 57; refine HM.out.mono ?_; rintro e w1 ⟨rfl, b1⟩)
    | fail)
  go_ret
  exact ⟨rfl, b1⟩
theorem pnil_shown (w : World) : Calls Try.prog 34 #[.pointer none] w fun e w' => e = .returned (.int .i64 0) ∧ Below w.heap.size w w' := by
  have HM : Hid (Calls Try.prog 57 #[.pointer none, .int .i64 1] w fun e w' => e = .returned (.int .i64 0) ∧ Below w.heap.size w w') := by
    show Calls Try.prog 57 #[.pointer none, .int .i64 1] w _
    go_enter Try.func57, Try.ntmps57
    go_wp2
    go_ret
    exact ⟨rfl, Below.refl _ _⟩
  go_enter Try.func34, Try.ntmps34
  go_wp2_with (first
    | (go_at_call 57; refine HM.out.mono ?_; rintro e w1 ⟨rfl, b1⟩)
    | fail)
  go_ret
  exact ⟨rfl, b1⟩
theorem pnil_ids (w : World) : Calls Try.prog 24 #[.pointer none] w fun e w' => e = .returned (.slice none 0 0) ∧ Below w.heap.size w w' := by
  have HM : Hid (Calls Try.prog 55 #[.pointer none, .int .i64 0] w fun e w' => e = .returned (.slice none 0 0) ∧ Below w.heap.size w w') := by
    show Calls Try.prog 55 #[.pointer none, .int .i64 0] w _
    go_enter Try.func55, Try.ntmps55
    go_wp2
    go_ret
    exact ⟨rfl, Below.refl _ _⟩
  go_enter Try.func24, Try.ntmps24
  go_wp2_with (first
    | (go_at_call 55; refine HM.out.mono ?_; rintro e w1 ⟨rfl, b1⟩)
    | fail)
  go_ret
  exact ⟨rfl, b1⟩
theorem pnil_live (w : World) : Calls Try.prog 25 #[.pointer none] w fun e w' => e = .returned (.slice none 0 0) ∧ Below w.heap.size w w' := by
  have HM : Hid (Calls Try.prog 55 #[.pointer none, .int .i64 1] w fun e w' => e = .returned (.slice none 0 0) ∧ Below w.heap.size w w') := by
    show Calls Try.prog 55 #[.pointer none, .int .i64 1] w _
    go_enter Try.func55, Try.ntmps55
    go_wp2
    go_ret
    exact ⟨rfl, Below.refl _ _⟩
  go_enter Try.func25, Try.ntmps25
  go_wp2_with (first
    | (go_at_call 55; refine HM.out.mono ?_; rintro e w1 ⟨rfl, b1⟩)
    | fail)
  go_ret
  exact ⟨rfl, b1⟩
theorem pnil_rank (w : World) {k : IdK} (hk : k.ok) : Calls Try.prog 27 #[.pointer none, k.v] w fun e w' => e = .returned (.int .i64 (-1)) ∧ Below w.heap.size w w' := by
  have HA : Hid (∀ W : World, Calls Try.prog 56 #[.pointer none, k.v, .int .i64 0] W fun e w' => e = .returned (.int .i64 (-1)) ∧ Below W.heap.size W w') := fun W => by
    have bx : Below W.heap.size W (W.alloc (.cells k.c.toArray 32)) := (Below.refl _ _).alloc (Nat.le_refl _) _
    have hx := id_new W k
    have HH : Hid (∀ W : World, Calls Try.prog 28 #[.pointer none, k.v] W fun e w' => e = .returned (.bool false) ∧ Below W.heap.size W w') := fun W => pnil_has W k
    show Calls Try.prog 56 #[.pointer none, .agg k.c.toArray, .int .i64 0] W _
    go_enter Try.func56, Try.ntmps56
    go_upto_region 1 with fail
    generalize W.alloc (.cells k.c.toArray 32) = wx at *
    have HL := hidMk (load_id hk hx)
    clear hx
    go_wp2_with (first
      | (refine wload wx rfl rfl rfl HL.out rfl ?_)
      | (go_at_call 28; refine (HH.out _).mono ?_; rintro e w1 ⟨rfl, b1⟩)
      | fail)
    go_ret
    exact ⟨rfl, bx.trans (b1.mono bx.size)⟩
  have bx : Below w.heap.size w (w.alloc (.cells k.c.toArray 32)) := (Below.refl _ _).alloc (Nat.le_refl _) _
  have hx := id_new w k
  show Calls Try.prog 27 #[.pointer none, .agg k.c.toArray] w _
  go_enter Try.func27, Try.ntmps27
  go_upto_region 1 with fail
  generalize w.alloc (.cells k.c.toArray 32) = wx at *
  have HL := hidMk (load_id hk hx)
  clear hx
  go_wp2_with (first
    | (refine wload wx rfl rfl rfl HL.out rfl ?_)
    | (go_at_call 56; refine (HA.out _).mono ?_; rintro e w1 ⟨rfl, b1⟩)
    | fail)
  go_ret
  exact ⟨rfl, bx.trans (b1.mono bx.size)⟩
theorem pnil_index (w : World) {k : IdK} (hk : k.ok) : Calls Try.prog 32 #[.pointer none, k.v] w fun e w' => e = .returned (.int .i64 (-1)) ∧ Below w.heap.size w w' := by
  have HA : Hid (∀ W : World, Calls Try.prog 56 #[.pointer none, k.v, .int .i64 1] W fun e w' => e = .returned (.int .i64 (-1)) ∧ Below W.heap.size W w') := fun W => by
    have bx : Below W.heap.size W (W.alloc (.cells k.c.toArray 32)) := (Below.refl _ _).alloc (Nat.le_refl _) _
    have hx := id_new W k
    have HH : Hid (∀ W : World, Calls Try.prog 28 #[.pointer none, k.v] W fun e w' => e = .returned (.bool false) ∧ Below W.heap.size W w') := fun W => pnil_has W k
    show Calls Try.prog 56 #[.pointer none, .agg k.c.toArray, .int .i64 1] W _
    go_enter Try.func56, Try.ntmps56
    go_upto_region 1 with fail
    generalize W.alloc (.cells k.c.toArray 32) = wx at *
    have HL := hidMk (load_id hk hx)
    clear hx
    go_wp2_with (first
      | (refine wload wx rfl rfl rfl HL.out rfl ?_)
      | (go_at_call 28; refine (HH.out _).mono ?_; rintro e w1 ⟨rfl, b1⟩)
      | fail)
    go_ret
    exact ⟨rfl, bx.trans (b1.mono bx.size)⟩
  have bx : Below w.heap.size w (w.alloc (.cells k.c.toArray 32)) := (Below.refl _ _).alloc (Nat.le_refl _) _
  have hx := id_new w k
  show Calls Try.prog 32 #[.pointer none, .agg k.c.toArray] w _
  go_enter Try.func32, Try.ntmps32
  go_upto_region 1 with fail
  generalize w.alloc (.cells k.c.toArray 32) = wx at *
  have HL := hidMk (load_id hk hx)
  clear hx
  go_wp2_with (first
    | (refine wload wx rfl rfl rfl HL.out rfl ?_)
    | (go_at_call 56; refine (HA.out _).mono ?_; rintro e w1 ⟨rfl, b1⟩)
    | fail)
  go_ret
  exact ⟨rfl, bx.trans (b1.mono bx.size)⟩
theorem box_zid {w w1 : World} {rb : Nat} (hr : IdAt w1 rb zId) (b1 : Below rb w w1) (hw : rb = w.heap.size) : (Instr.storeAt 32 (.pointer (some ⟨rb, 0, none⟩)) zId.v).run Try.prog w1 = .ok () (w1.setRow rb zId.c.toArray) ∧ IdAt (w1.setRow rb zId.c.toArray) rb zId ∧ Below rb w (w1.setRow rb zId.c.toArray) := by
  subst hw
  exact ⟨store_id zId_ok zId_ok hr, hr.set zId, b1.trans (set_below _ b1.size (Nat.le_refl _))⟩
theorem pnil_at (w : World) (z : Int) : Calls Try.prog 31 #[.pointer none, .int .i64 z] w fun e w' => e = .returned (.tuple #[zId.v, .bool false]) ∧ Below w.heap.size w w' := by
  have HA : Hid (∀ W : World, Calls Try.prog 58 #[.pointer none, .int .i64 z, .int .i64 0] W fun e w' => e = .returned (.tuple #[zId.v, .bool false]) ∧ Below W.heap.size W w') := fun w => by
    have hr := id_new w zId
    have bx : Below w.heap.size w (w.alloc (.cells zId.c.toArray 32)) := (Below.refl _ _).alloc (Nat.le_refl _) _
    show Calls Try.prog 58 #[.pointer none, .int .i64 z, .int .i64 0] w _
    go_enter Try.func58, Try.ntmps58
    go_upto_region 2 with (first
      | (refine wpList_run rfl (exec_alloc (t := 32) rfl (id_zero _)) ?_)
      | fail)
    generalize w.alloc (.cells zId.c.toArray 32) = wx at *
    obtain ⟨e1, i3, b3⟩ := box_zid hr bx rfl
    refine finn2 _ _ _ rfl rfl e1 ?_
    intro a' w2 hw ha
    subst ha
    obtain rfl : w2 = _ := hw
    simp only [Act.put, List.setIfInBounds_toArray, List.set_cons_zero, List.set_cons_succ]
    generalize wx.setRow w.heap.size zId.c.toArray = w3 at *
    clear e1
    go_wp2
    refine bodyPost_ret (results_c2 rfl rfl (loadVar_id zId_ok i3)) rfl ?_
    exact ⟨rfl, b3⟩
  have hr := id_new w zId
  have bx : Below w.heap.size w (w.alloc (.cells zId.c.toArray 32)) := (Below.refl _ _).alloc (Nat.le_refl _) _
  go_enter Try.func31, Try.ntmps31
  go_upto_region 1 with (first
    | (refine wpList_run rfl (exec_alloc (t := 32) rfl (id_zero _)) ?_)
    | fail)
  generalize w.alloc (.cells zId.c.toArray 32) = wx at *
  have HR := hidMk hr
  have BX := hidMk bx
  clear hr bx
  go_wp2_with (first
    | (go_at_call 58; refine (HA.out _).mono ?_; rintro e w1 ⟨rfl, hb⟩; have ST := hidMk (store_id zId_ok zId_ok (HR.out.below hb)))
    | (refine wpList_skip rfl rfl (exec_store (t := 32) (xv := .pointer (some ⟨w.heap.size, 0, none⟩)) (yv := zId.v) rfl rfl rfl ST.out) ?_)
    | fail)
  refine bodyPost_ret (results_c2 rfl rfl (loadVar_id zId_ok ((HR.out.below hb).set zId))) rfl ?_
  have b2 := BX.out.trans (hb.mono BX.out.size)
  exact ⟨rfl, b2.trans (set_below _ b2.size (Nat.le_refl _))⟩
theorem pnil_nth (w : World) (z : Int) : Calls Try.prog 33 #[.pointer none, .int .i64 z] w fun e w' => e = .returned (.tuple #[zId.v, .bool false]) ∧ Below w.heap.size w w' := by
  have HA : Hid (∀ W : World, Calls Try.prog 58 #[.pointer none, .int .i64 z, .int .i64 1] W fun e w' => e = .returned (.tuple #[zId.v, .bool false]) ∧ Below W.heap.size W w') := fun w => by
    have hr := id_new w zId
    have bx : Below w.heap.size w (w.alloc (.cells zId.c.toArray 32)) := (Below.refl _ _).alloc (Nat.le_refl _) _
    show Calls Try.prog 58 #[.pointer none, .int .i64 z, .int .i64 1] w _
    go_enter Try.func58, Try.ntmps58
    go_upto_region 2 with (first
      | (refine wpList_run rfl (exec_alloc (t := 32) rfl (id_zero _)) ?_)
      | fail)
    generalize w.alloc (.cells zId.c.toArray 32) = wx at *
    obtain ⟨e1, i3, b3⟩ := box_zid hr bx rfl
    refine finn2 _ _ _ rfl rfl e1 ?_
    intro a' w2 hw ha
    subst ha
    obtain rfl : w2 = _ := hw
    simp only [Act.put, List.setIfInBounds_toArray, List.set_cons_zero, List.set_cons_succ]
    generalize wx.setRow w.heap.size zId.c.toArray = w3 at *
    clear e1
    go_wp2
    refine bodyPost_ret (results_c2 rfl rfl (loadVar_id zId_ok i3)) rfl ?_
    exact ⟨rfl, b3⟩
  have hr := id_new w zId
  have bx : Below w.heap.size w (w.alloc (.cells zId.c.toArray 32)) := (Below.refl _ _).alloc (Nat.le_refl _) _
  go_enter Try.func33, Try.ntmps33
  go_upto_region 1 with (first
    | (refine wpList_run rfl (exec_alloc (t := 32) rfl (id_zero _)) ?_)
    | fail)
  generalize w.alloc (.cells zId.c.toArray 32) = wx at *
  have HR := hidMk hr
  have BX := hidMk bx
  clear hr bx
  go_wp2_with (first
    | (go_at_call 58; refine (HA.out _).mono ?_; rintro e w1 ⟨rfl, hb⟩; have ST := hidMk (store_id zId_ok zId_ok (HR.out.below hb)))
    | (refine wpList_skip rfl rfl (exec_store (t := 32) (xv := .pointer (some ⟨w.heap.size, 0, none⟩)) (yv := zId.v) rfl rfl rfl ST.out) ?_)
    | fail)
  refine bodyPost_ret (results_c2 rfl rfl (loadVar_id zId_ok ((HR.out.below hb).set zId))) rfl ?_
  have b2 := BX.out.trans (hb.mono BX.out.size)
  exact ⟨rfl, b2.trans (set_below _ b2.size (Nat.le_refl _))⟩
theorem pnil_behind (w : World) {k : IdK} (hk : k.ok) : Calls Try.prog 48 #[.pointer none, k.v] w fun e w' => e = .returned (.tuple #[zId.v, .bool false]) ∧ Below w.heap.size w w' := by
  obtain ⟨hx, hr, bx, zx⟩ := two_boxes w k zId
  show Calls Try.prog 48 #[.pointer none, .agg k.c.toArray] w _
  go_enter Try.func48, Try.ntmps48
  go_upto_region 1 with (first
    | (refine wpList_run rfl (exec_alloc (t := 32) rfl (id_zero _)) ?_)
    | fail)
  generalize (w.alloc (.cells k.c.toArray 32)).alloc (.cells zId.c.toArray 32) = wx at *
  refine behn1 (k := k) (fun w' => Below wx.heap.size wx w') _ _ _ rfl rfl rfl hk hx (pnil_has wx k) ?_
  intro a' w1 hw ha
  subst ha
  have hr2 := hr.below hw
  have b2 := bx.trans (hw.mono bx.size)
  clear zx
  simp only [Act.put, List.setIfInBounds_toArray, List.set_cons_zero, List.set_cons_succ]
  go_upto_region 2 with fail
  refine be2 _ _ _ rfl rfl (store_id zId_ok zId_ok hr2) ?_
  intro a' w3 hw3 ha
  subst ha
  obtain rfl : w3 = _ := hw3
  simp only [Act.put, List.setIfInBounds_toArray, List.set_cons_zero, List.set_cons_succ]
  have hr3 := hr2.set zId
  have b3 : Below w.heap.size w (w1.setRow (w.heap.size + 1) zId.c.toArray) := b2.trans (set_below _ b2.size (by omega))
  generalize w1.setRow (w.heap.size + 1) zId.c.toArray = w3 at *
  go_wp2
  refine bodyPost_ret (results_c2 rfl rfl (loadVar_id zId_ok hr3)) rfl ?_
  exact ⟨rfl, b3⟩
end Go.Proofs.Ytpdepbakopdgpaa
namespace Go.Proofs.Ytpdepbakopdgpaa
open Go.RowKit Sq
set_option linter.unusedVariables false
set_option linter.unusedSimpArgs false
theorem ex_eql36 {w : World} {a : Act} {o : Oper} {x y : Operand} {p q : Int} {r : Bool} (ho : o.op = .binOp .eql 36 x y 36) (hx : a.eval x = .int .i64 p) (hy : a.eval y = .int .i64 q) (h : decide (p = q) = r) : (execOp a.eval o).run Try.prog w = .ok (.value (.bool r)) w := by
  refine exec_binOp ho hx hy ?_ ?_
  · kernel_rfl
  · subst h
    go_simp
    first | rfl | (congr 2; rw [Bool.eq_iff_iff]; simp)
theorem snoc_ind {α : Type} {P : List α → Prop} (h0 : P []) (hs : ∀ l x, P l → P (l ++ [x])) (l : List α) : P l := by
  have : ∀ n (l : List α), l.length = n → P l := by
    intro n
    induction n with
    | zero => intro l h; rw [List.eq_nil_of_length_eq_zero h]; exact h0
    | succ n ih =>
      intro l h
      have hne : l ≠ [] := by intro q; rw [q] at h; cases h
      rw [← List.dropLast_concat_getLast hne]
      exact hs _ _ (ih _ (by simp; omega))
  exact this _ l rfl
theorem OwnP.cells {w : World} {base : Nat} {v : Value} {l : List PutV} (h : OwnP w base v l) {k : Nat} (hk : v.ownBlock = some k) : base ≤ k ∧ k < w.heap.size := by
  rcases h.2 with ⟨rfl, _⟩ | ⟨g, cap, cur, rfl, hb, hg, _⟩
  · cases hk
  · simp only [Value.ownBlock, Option.some.injEq] at hk
    subst hk
    exact ⟨hb, (Array.getElem?_eq_some_iff.1 hg).1⟩
theorem Tch.belowS {w w' : World} {s : Sx} {B : Nat} (h : Tch (fun j => j ∈ s.bl) w w') (hB : B ≤ w.heap.size) (hs : ∀ j ∈ s.bl, B ≤ j) : Below B w w' := h.below hB hs
theorem Nxt.bl {s s' : Sx} {w w' : World} {E' : List Elt} (h : Nxt s w s' E' w') : ∀ j ∈ s'.bl, j ∈ s.bl ∨ w.heap.size ≤ j := fun j hj => by
  simp only [Sx.bl, List.mem_cons, List.not_mem_nil, or_false, h.sb, h.mb] at hj ⊢
  rcases hj with q | q | q
  · exact .inl (.inl q)
  · exact .inl (.inr (.inl q))
  · rcases h.own with e | e
    · exact .inl (.inr (.inr (q.trans e)))
    · exact .inr (by omega)
structure LyI (w : World) (sb : Nat) (st : List Elt × List PutV) (v : Value) (W : World) : Prop where
  sq : ∃ s : Sx, s.sb = sb ∧ SeqAt W s st.1 ∧ (∀ j ∈ s.bl, w.heap.size ≤ j) ∧ ∀ k, v.ownBlock = some k → k ∉ s.bl
  own : OwnP W w.heap.size v st.2
  bel : Below w.heap.size w W
theorem LyI.drew {w W : World} {sb : Nat} {st : List Elt × List PutV} {v : Value} (h : LyI w sb st v W) : LyI w sb st v W.drew := by
  obtain ⟨⟨s, a, b, c, d⟩, o, b'⟩ := h
  exact ⟨⟨s, a, b.drew, c, d⟩, o.keep (fun _ _ => rfl), b'.drew⟩
theorem LyI.ins {w W : World} {sb : Nat} {st : List Elt × List PutV} {v : Value} (h : LyI w sb st v W) {p : PutV} (hp : p.ok) (hl : st.1.length + 2 ≤ 1400000000000) : Calls Try.prog 12 #[.pointer (some ⟨sb, 0, none⟩), p.id.v, p.bh.v] W fun e w' => e = .returned (.int .i64 (insC st.1 p.id p.bh : Int)) ∧ LyI w sb (insR st.1 p.id p.bh, st.2) v w' := by
  obtain ⟨⟨s, rfl, b, c, d⟩, o, b'⟩ := h
  refine (insert_any b hp.id hp.bh hl).mono ?_
  rintro e w' ⟨rfl, s', nx⟩
  have bb : Below w.heap.size W w' := nx.tch.belowS b'.size c
  refine ⟨rfl, ⟨s', nx.sb, nx.at', fun j hj => ?_, fun k hk hj => ?_⟩, o.keep (fun k hk => nx.tch.block k (o.cells hk).2 (d k hk)), b'.trans bb⟩
  · rcases nx.bl j hj with q | q
    · exact c j q
    · exact Nat.le_trans b'.size q
  · rcases nx.bl k hj with q | q
    · exact d k hk q
    · have := (o.cells hk).2; omega
theorem PutsAt.get {w : World} {a : Option Addr} {l : List PutV} (h : PutsAt w a l) {i : Nat} (hi : i < l.length) : ∃ b o, a = some ⟨b, o, none⟩ ∧ b < w.heap.size ∧ w.rangeAt b (o + 66 * i) (l[i]).c := by
  rcases h with rfl | ⟨b, o, e, hl, hr⟩
  · simp at hi
  · exact ⟨b, o, e, hl, hr i l[i] (List.getElem?_eq_getElem hi)⟩
theorem OwnI.app {w W : World} {v : Value} {T : List IdK} (o : OwnI W w.heap.size v T) (b' : Below w.heap.size w W) {k : IdK} (hk : k.ok) (hl : T.length + 1 ≤ 1400000000000) : ∃ v' w1 w2, (Instr.buildSlice 47 1 #[(0, k.v)]).run Try.prog W = .ok (.slice (some ⟨W.heap.size, 0, none⟩) 1 1) w1 ∧ (Builtin.append_ #[47, 47] 47 #[v, .slice (some ⟨W.heap.size, 0, none⟩) 1 1]).run Try.prog w1 = .ok v' w2 ∧ OwnI w2 w.heap.size v' (T ++ [k]) ∧ Below w.heap.size w w2 := by
  have eb := run_bsI k hk W
  have b1 : Below W.heap.size W (W.alloc (.cells k.c.toArray 32)) := (Below.refl _ _).alloc (Nat.le_refl _) _
  have zW : (W.alloc (.cells k.c.toArray 32)).heap.size = W.heap.size + 1 := by simp
  obtain ⟨v', w2, ea, o2, g2, ow⟩ := run_appI (W.alloc (.cells k.c.toArray 32)) w.heap.size v T (some ⟨W.heap.size, 0, none⟩) [k] 1 (o.below b1) (ids_lit W k _) (by simp [hk]) (by simp; omega) (by rw [zW]; have := b'.size; omega)
  exact ⟨v', _, w2, eb, ea, o2, b'.trans ((b1.mono b'.size).trans ⟨g2.os, g2.tape, g2.output, g2.size, fun j hj => g2.block j (by have := b'.size; omega) (fun e => by have := (o.cells e.symm).1; omega)⟩)⟩
def idsE (E : List Elt) (c : Bool) : List IdK := (visE E c).map (·.id)
structure BK (w : World) (s : Sx) (E : List Elt) (Ls : List (Value × List IdK)) (W : World) : Prop where
  sq : SeqAt W s E
  lo : ∀ j ∈ s.bl, w.heap.size ≤ j
  bel : Below w.heap.size w W
  ls : ∀ p ∈ Ls, OwnI W w.heap.size p.1 p.2 ∧ (∀ x ∈ p.2, x.ok) ∧ p.2.length ≤ 1400000000000 ∧ ∀ k, p.1.ownBlock = some k → k ∉ s.bl
section
variable {w W : World} {s : Sx} {E : List Elt} {Ls : List (Value × List IdK)}
theorem OwnI.lt {w : World} {base : Nat} {v : Value} {l : List IdK} (h : OwnI w base v l) {k : Nat} (hk : v.ownBlock = some k) : k < w.heap.size := by
  obtain ⟨_, c, t, q, e⟩ := h.cells hk
  exact (Array.getElem?_eq_some_iff.1 e).1
theorem BK.below {W' : World} (h : BK w s E Ls W) (b : Below W.heap.size W W') : BK w s E Ls W' :=
  ⟨h.sq.below b, h.lo, h.bel.trans (b.mono h.bel.size), fun p hp => ⟨(h.ls p hp).1.below b, (h.ls p hp).2⟩⟩
theorem BK.add {W' : World} {v : Value} {c : Bool} (h : BK w s E Ls W) (o : OwnI W' W.heap.size v (idsE E c)) (b : Below W.heap.size W W') : BK w s E ((v, idsE E c) :: Ls) W' := by
  have h' := h.below b
  refine ⟨h'.sq, h'.lo, h'.bel, fun p hp => ?_⟩
  rcases List.mem_cons.1 hp with rfl | hp
  · have hl : (visE E c).length ≤ E.length := List.length_filter_le _ _
    have := h.sq.lk.len
    have := h.sq.row.len
    refine ⟨⟨o.1, ?_⟩, fun x hx => ?_, by simp [idsE]; omega, fun k hk hj => ?_⟩
    · rcases o.2 with q | ⟨g, cap, cur, e, hb, r⟩
      · exact .inl q
      · exact .inr ⟨g, cap, cur, e, Nat.le_trans h.bel.size hb, r⟩
    · obtain ⟨e, he, rfl⟩ := List.mem_map.1 hx
      exact (h.sq.lk.ok.ok e (List.mem_filter.1 he).1).1
    · have := h.sq.lt k hj
      have := (o.cells hk).1
      omega
  · exact h'.ls p hp
theorem BK.ids (h : BK w s E Ls W) : Calls Try.prog 24 #[.pointer (some ⟨s.sb, 0, none⟩)] W fun e w' => ∃ v n c, e = .returned (.slice v n c) ∧ (n = (idsE E false).length ∧ n ≤ 1400000000000) ∧ BK w s E ((.slice v n c, idsE E false) :: Ls) w' := by
  refine (ids_any h.sq).mono ?_
  rintro e w' ⟨v, rfl, o, b⟩
  have h2 := h.add o b
  obtain ⟨a, c, rfl, _, _⟩ := o.open (h2.ls (v, idsE E false) (by simp)).2.1
  exact ⟨a, _, c, rfl, ⟨rfl, (h2.ls _ (List.mem_cons_self ..)).2.2.1⟩, h2⟩
theorem BK.same (h : BK w s E Ls W) {u v : Value} {A B : List IdK} (h1 : (u, A) ∈ Ls) (h2 : (v, B) ∈ Ls) : Calls Try.prog 26 #[u, v] W fun e w' => e = .returned (.bool (decide (A = B))) ∧ BK w s E Ls w' := by
  obtain ⟨a1, a2, a3, _⟩ := h.ls _ h1
  obtain ⟨b1, b2, b3, _⟩ := h.ls _ h2
  simp only at a1 a2 a3 b1 b2 b3
  obtain ⟨a, ca, rfl, ia, _⟩ := OwnI.open a1 a2
  obtain ⟨b, cb, rfl, ib, _⟩ := OwnI.open b1 b2
  refine (same_ids a b ca cb A B W ia ib a2 b2 (by omega)).mono ?_
  rintro e w' ⟨rfl, bb⟩
  exact ⟨rfl, h.below bb⟩
end
theorem insC_zero {E : List Elt} {k b : IdK} (h : insC E k b = 0) : 1 ≤ k.n ∧ hasE E k = false ∧ (b = zId ∨ hasE E b = true) := by
  unfold insC at h
  split at h
  · cases h
  · next h1 =>
    split at h
    · cases h
    · next h2 =>
      split at h
      · cases h
      · next h3 =>
        refine ⟨by omega, by simpa using h2, ?_⟩
        by_cases q : b = zId
        · exact .inl q
        · refine .inr ?_
          cases r : hasE E b with
          | true => rfl
          | false => exact absurd ⟨q, r⟩ h3
end Go.Proofs.Ytpdepbakopdgpaa
namespace Go.Proofs.Ytpdepbakopdgpaa
open Go.RowKit Sq
set_option linter.unusedVariables false
set_option linter.unusedSimpArgs false
end Go.Proofs.Ytpdepbakopdgpaa
namespace Go.Proofs.Ytpdepbakopdgpaa
open Go.RowKit Sq
set_option linter.unusedVariables false
set_option linter.unusedSimpArgs false
theorem visE_all (E : List Elt) : visE E false = E := List.filter_eq_self.2 fun x _ => rfl
theorem szIdR (w : World) : (sizeOf 32).run Try.prog w = .ok 33 w := m_sz szId w
theorem IdsAt.take {w : World} {a : Option Addr} {L : List IdK} (h : IdsAt w a L) (n : Nat) : IdsAt w a (L.take n) := by
  rcases h with rfl | ⟨b, o, e, hl, hr⟩
  · exact .inl (by simp)
  · exact .inr ⟨b, o, e, hl, fun i x hx => hr i x (by rw [List.getElem?_take] at hx; split at hx; exact hx; cases hx)⟩
theorem OwnI.upto {w : World} {base : Nat} {v : Value} {L : List IdK} (h : OwnI w base v L) (ok : ∀ x ∈ L, x.ok) {n : Nat} (hn : n ≤ L.length) (hl : L.length ≤ 1400000000000) : ∃ a c, (∀ W, (Instr.sliceAt 47 v none (some (.int .i64 (n : Int))) none).run Try.prog W = .ok (.slice a n c) W) ∧ IdsAt w a (L.take n) := by
  obtain ⟨a, c, rfl, hat, hc⟩ := h.open ok
  have h1 : (0 : Int) ≤ (n : Int) ∧ (n : Int) ≤ (c : Int) := by omega
  refine ⟨a, c, fun W => ?_, hat.take n⟩
  cases a with
  | none =>
    simp only [Instr.sliceAt, Instr.slice, Instr.sliceBounds, Instr.sliceBound, run_underlying Try.underlying47, asIntOf, Sem.run_bind, Sem.run_pure, Result.andThen_ok, szIdR]
    rw [if_pos h1]
    simp only [Sem.run_bind, Sem.run_pure, Result.andThen_ok, Int.toNat_natCast]
    simp
  | some ad =>
    simp only [Instr.sliceAt, Instr.slice, Instr.sliceBounds, Instr.sliceBound, run_underlying Try.underlying47, asIntOf, Sem.run_bind, Sem.run_pure, Result.andThen_ok, szIdR]
    rw [if_pos h1]
    simp only [Sem.run_bind, Sem.run_pure, Result.andThen_ok, Int.toNat_natCast]
    obtain ⟨b, o, sp⟩ := ad
    simp [Addr.add]
theorem OwnI.from {w : World} {base : Nat} {v : Value} {L : List IdK} (h : OwnI w base v L) (ok : ∀ x ∈ L, x.ok) {n : Nat} (hn : n ≤ L.length) (hl : L.length ≤ 1400000000000) : ∃ a c, (∀ W, (Instr.sliceAt 47 v (some (.int .i64 (n : Int))) none none).run Try.prog W = .ok (.slice a (L.length - n) c) W) ∧ IdsAt w a (L.drop n) := by
  obtain ⟨a, c, rfl, hat, hc⟩ := h.open ok
  have h2 : (0 : Int) ≤ (n : Int) ∧ (n : Int) ≤ (L.length : Int) := by omega
  cases a with
  | none =>
    refine ⟨none, c - n, fun W => ?_, ?_⟩
    · simp only [Instr.sliceAt, Instr.slice, Instr.sliceBounds, Instr.sliceBound, run_underlying Try.underlying47, asIntOf, Sem.run_bind, Sem.run_pure, Result.andThen_ok, szIdR]
      rw [if_pos h2]
      simp only [Sem.run_bind, Sem.run_pure, Result.andThen_ok, Int.toNat_natCast]
      simp
    · rcases hat with q | ⟨b, o, e, _⟩
      · exact .inl (by rw [q]; simp)
      · cases e
  | some ad =>
    by_cases e : c = n
    · refine ⟨some ad, c - n, fun W => ?_, .inl (List.drop_of_length_le (by omega))⟩
      simp only [Instr.sliceAt, Instr.slice, Instr.sliceBounds, Instr.sliceBound, run_underlying Try.underlying47, asIntOf, Sem.run_bind, Sem.run_pure, Result.andThen_ok, szIdR]
      rw [if_pos h2]
      simp only [Sem.run_bind, Sem.run_pure, Result.andThen_ok, Int.toNat_natCast]
      rw [if_pos e]
    · refine ⟨some (ad.add (n * 33)), c - n, fun W => ?_, ?_⟩
      · simp only [Instr.sliceAt, Instr.slice, Instr.sliceBounds, Instr.sliceBound, run_underlying Try.underlying47, asIntOf, Sem.run_bind, Sem.run_pure, Result.andThen_ok, szIdR]
        rw [if_pos h2]
        simp only [Sem.run_bind, Sem.run_pure, Result.andThen_ok, Int.toNat_natCast]
        rw [if_neg e]
        simp
      · rcases hat with q | ⟨b, o, e2, hl2, hr⟩
        · exact .inl (by rw [q]; simp)
        · cases e2
          refine .inr ⟨b, o + n * 33, by rw [Addr.add_mid], hl2, fun i x hx => ?_⟩
          rw [List.getElem?_drop] at hx
          have := hr (n + i) x hx
          rw [show o + n * 33 + 33 * i = o + 33 * (n + i) by omega]
          exact this
end Go.Proofs.Ytpdepbakopdgpaa
