import Derived.Test.YtlejbdepoemcjaaSqj
import Derived.RangeFuncFrom
import Derived.Shelf.Abstract
import Derived.Laws.MakeOwn
import Derived.Test.YtlejbdepoemcjaaVt
import Derived.Stop.Joined
import Derived.Lay
import Derived.Deep.DeepHandedRow
import Derived.JoinedCond
import Derived.Test.YtlejbdepoemcjaaRows
import Derived.WalkKit
import Derived.WalkSpells
import Derived.WalkLawsBesides
import Derived.Maps.AppendAt
import Derived.Laws.OwnMore
import Derived.Below
import Derived.OwnWalk
import Derived.Deep.MidRow
import Derived.StillTailTactics
import Derived.Test.YtlejbdepoemcjaaZr
import Derived.Shelf.SlMaps.Clone
import Derived.Shelf.SlGeneric
import Derived.Ground.SlmcProg
set_option maxRecDepth 100000
set_option maxHeartbeats 4000000
namespace Go.Proofs.Ytlejbdepoemcjaa
open Go.RowKit Go.Shelf Sq
set_option linter.unusedVariables false
set_option linter.unusedSimpArgs false
def Kl (l : List Nat) (W W' : World) : Prop := ∀ j ∈ l, W'.heap[j]? = W.heap[j]?
theorem Kl.trans {l : List Nat} {A B C : World} (h : Kl l A B) (k : Kl l B C) : Kl l A C := fun j hj => (k j hj).trans (h j hj)
theorem Kl.put {l : List Nat} {w : World} (hl : ∀ j ∈ l, j < w.heap.size) (W : World) (b : Nat) (o o' : Obj) (hb : w.heap.size ≤ b) (h : W.heap[b]? = some o) (h1 : o.isCells = false) (h2 : o.isWalk = false) : Kl l W (W.putObj b o') := fun j hj => by
  have := hl j hj
  exact World.putObj_heap_other (by omega)
theorem ws_of {w : World} {b1 b2 rb ro : Nat} {c : Bool} (h1 : w.cell? ⟨b1, 0, none⟩ = some (.pointer (some ⟨rb, ro, none⟩))) (h2 : w.cell? ⟨b2, 0, none⟩ = some (.int .i64 (nb c : Int))) : WS b1 b2 rb ro c w := by
  unfold WS
  constructor <;> go_simp
theorem walk1_stops (n rb ro g cap b1 b2 : Nat) (L : List Sp) (t : T) (c : Bool) (w : World) (hR : SqAt w rb ro g cap L) (hg : Good L t) (h1 : w.cell? ⟨b1, 0, none⟩ = some (.pointer (some ⟨rb, ro, none⟩))) (h2 : w.cell? ⟨b2, 0, none⟩ = some (.int .i64 (nb c : Int))) :
    SeqStopsK Fence.wide n Try.prog 95 #[.pointer (some ⟨b1, 0, none⟩), .pointer (some ⟨b2, 0, none⟩)] (fun x : OkK => #[KpV.v x.1]) (Kl [rb, g]) (fun xs => xs = visK hR.ok c t) (fun _ => True) (vis L c t).length w := by
  intro l J Jx W hW hJ hJx hY h0
  have l1 := block_lt_of_cell h1
  have l2 := block_lt_of_cell h2
  have R0 : SqAt W rb ro g cap L := hR.keep (hW.block _ hR.lt.1) (hW.block _ hR.lt.2)
  have w1 : WS b1 b2 rb ro c W.drew := ws_of ((hW.cell (p := ⟨b1, 0, none⟩) l1).trans h1) ((hW.cell (p := ⟨b2, 0, none⟩) l2).trans h2)
  have hJq : ∀ pre W W', J pre W → Qt W W' → J pre W' := fun pre W W' hj q => hJ pre W W' none hj ⟨q.os, q.tape, q.output, by rw [q.heap]; exact Nat.le_refl _, fun k _ _ => by rw [q.heap]⟩ (fun r e => by cases e)
  have HP := hidMk (pass_any (n := n) (N := (vis L c t).length) (l := l) (c := c) hR.ok J Jx hg.zip.z hg.pos hJq (fun pre x W1 hj hs hl => by
    obtain ⟨fn, tmps, assign, body, hy, hr⟩ := hY pre x W1 hj hl
    refine ⟨fn, tmps, assign, body, hy, hr.mono ?_⟩
    rintro e W' (⟨rfl, a1, a2⟩ | ⟨rfl, a1⟩)
    · exact ⟨true, rfl, .inl ⟨rfl, a1, hs.keep (a2 rb (by simp)) (a2 g (by simp))⟩⟩
    · exact ⟨false, rfl, .inr ⟨rfl, _, a1⟩⟩) t 0 [] W.drew hg.zip.rep hg.cnt R0.drew (hJq _ _ _ h0 (Qt.drew W)) (by simp))
  have HR := hidMk (root_any R0.drew hg)
  refine callsIn_of_wp Try.func95 rfl trivial ?_ rfl
  simp only [Try.ntmps95, List.size_toArray, List.length_cons, List.length_nil, Nat.reduceAdd, Nat.reduceSub, Array.replicate_succ, Array.replicate_zero, List.push_toArray, List.append_toArray, List.nil_append, List.cons_append]
  refine wpIn_wide.2 ?_
  go_upto_region 0 with fail
  refine walk0 (i := t.ix) (c := c) (l := l) (fun b w' => PassP J Jx rb ro g cap L ([] ++ visK hR.ok c t) b w') _ _ _ rfl rfl rfl rfl w1 (HR.out.mono ?_) ?_
  · rintro e w' ⟨rfl, rfl⟩
    exact ⟨rfl, w1, HP.out⟩
  intro b a' W' hP ha
  subst ha
  have HP2 := hidMk hP
  clear hP HP HR
  simp only [Act.put, List.setIfInBounds_toArray, List.set_cons_zero, List.set_cons_succ]
  go_end0
  refine ⟨⟨_, rfl⟩, ?_⟩
  rcases HP2.out with ⟨_, a, _⟩ | ⟨_, p, a⟩
  · exact .inl ⟨_, rfl, a⟩
  · exact .inr ⟨p, trivial, a⟩
attribute [local go_sem] Oper.semAt_some
theorem zeroEl (w : World) : (zeroValue 90).run Try.prog w = .ok (KpV.v zK) w := by kernel_rfl
theorem el_new (w : World) (k : KpV) (hk : KpV.ok k) : ∃ w1, (Instr.alloc 90 true (.tuple #[])).run Try.prog w = .ok (.pointer (some ⟨w.heap.size, 0, none⟩)) w1 ∧ (Instr.storeAt 90 (.pointer (some ⟨w.heap.size, 0, none⟩)) (KpV.v k)).run Try.prog w1 = .ok () (w.alloc (.cells (KpV.c k).toArray 90)) := by
  have e1 : (Instr.alloc 90 true (.tuple #[])).run Try.prog w = .ok (.pointer (some ⟨w.heap.size, 0, none⟩)) (w.alloc (.cells (KpV.c zK).toArray 90)) := by
    simp only [Instr.alloc, newVar, newRow, newObj, Sem.run_bind, zeroEl, Result.andThen_ok, KpV.v, Value.cells]
    rfl
  have e2 := run_storeVar_row (P := Try.prog) (w.alloc (.cells (KpV.c zK).toArray 90)) w.heap.size 90 90 (KpV.c zK).toArray (KpV.c k).toArray (heap_alloc_new _ _) (by rw [List.size_toArray, KpV.len hk]; exact szK)
    (by rw [List.size_toArray, List.size_toArray, KpV.len hk, KpV.len zK_ok]) (by rw [List.all_toArray, List.all_eq_true]; exact KpV.one k)
  rw [World.setRow_alloc_new] at e2
  refine ⟨_, e1, ?_⟩
  simp only [Instr.storeAt, Instr.sureAddr, Sem.run_bind, Sem.run_pure, Result.andThen_ok, KpV.v, e2]
theorem lv_store {w : World} {lb : Nat} {v : Value} (h : w.heap[lb]? = some (.cells #[v] 44 (0, 0))) (a : Option Addr) (n c : Nat) : (Instr.storeAt 44 (.pointer (some ⟨lb, 0, none⟩)) (.slice a n c)).run Try.prog w = .ok () (w.setCell ⟨lb, 0, none⟩ (.slice a n c)) ∧ (w.setCell ⟨lb, 0, none⟩ (.slice a n c)).heap[lb]? = some (.cells #[.slice a n c] 44 (0, 0)) := by
  have hc : w.cell? ⟨lb, 0, none⟩ = some v := (cell_of_row w lb 0 _ _ _ h).trans rfl
  have hf := frozen_of_row w lb 0 _ _ h
  exact ⟨by go_simp, Go.heap_setCell_same _ _ 0 _ _ _ h⟩
theorem lv_new (w : World) (a : Option Addr) (n c : Nat) : ∃ w1 w2, (Instr.alloc 44 true (.tuple #[])).run Try.prog w = .ok (.pointer (some ⟨w.heap.size, 0, none⟩)) w1 ∧ (Instr.storeAt 44 (.pointer (some ⟨w.heap.size, 0, none⟩)) (.slice a n c)).run Try.prog w1 = .ok () w2 ∧ Below w.heap.size w w2 ∧ w2.heap[w.heap.size]? = some (.cells #[.slice a n c] 44 (0, 0)) ∧ w2.heap.size = w.heap.size + 1 := by
  have hz : (zeroValue 44).run Try.prog w = .ok (.slice none 0 0) w := by kernel_rfl
  have e1 : (Instr.alloc 44 true (.tuple #[])).run Try.prog w = .ok (.pointer (some ⟨w.heap.size, 0, none⟩)) (w.alloc (.cells #[.slice none 0 0] 44)) := by
    simp only [Instr.alloc, newVar, newRow, newObj, Sem.run_bind, hz, Result.andThen_ok, Value.cells]
    rfl
  obtain ⟨e2, e3⟩ := lv_store (heap_alloc_new w (.cells #[.slice none 0 0] 44)) a n c
  exact ⟨_, _, e1, e2, ((Below.refl _ _).alloc (Nat.le_refl _) _).setCell (p := ⟨w.heap.size, 0, none⟩) (Nat.le_refl _) _, e3, by simp⟩
theorem lv_load {w : World} {lb : Nat} {v : Value} (h : w.heap[lb]? = some (.cells #[v] 44 (0, 0))) : (Instr.loadAt 44 (.pointer (some ⟨lb, 0, none⟩))).run Try.prog w = .ok v w := by
  have hc : w.cell? ⟨lb, 0, none⟩ = some v := (cell_of_row w lb 0 _ _ _ h).trans rfl
  go_simp
theorem el_load {w : World} {b : Nat} {k : KpV} (hk : KpV.ok k) (h : w.heap[b]? = some (.cells (KpV.c k).toArray 90 (0, 0))) : (Instr.loadAt 32 (.pointer (some ⟨b, 0, none⟩))).run Try.prog w = .ok k.id.v w :=
  run_loadAt_mid (P := Try.prog) w b 0 32 k.id.c _ (fun j v hv => cells_range h j v (by rw [KpV.c, List.getElem?_append_left (List.getElem?_eq_some_iff.1 hv).1]; exact hv)) Try.underlying32 rfl (by rw [IdK.len hk.id]; exact szId)
theorem walk_any (w : World) (rb ro : Nat) (c : Bool) : Calls Try.prog 86 #[.pointer (some ⟨rb, ro, none⟩), .int .i64 (nb c : Int)] w fun e w' => e = .returned (.func (.func 95) #[] #[.pointer (some ⟨w.heap.size, 0, none⟩), .pointer (some ⟨w.heap.size + 1, 0, none⟩)]) ∧ w'.heap.size = w.heap.size + 2 ∧ w'.cell? ⟨w.heap.size, 0, none⟩ = some (.pointer (some ⟨rb, ro, none⟩)) ∧ w'.cell? ⟨w.heap.size + 1, 0, none⟩ = some (.int .i64 (nb c : Int)) ∧ Below w.heap.size w w' := by
  go_enter Try.func86, Try.ntmps86
  go_wp2
  go_ret
  have z : (w.alloc (.cells #[.pointer (some ⟨rb, ro, none⟩)] 114)).heap.size = w.heap.size + 1 := by simp
  refine ⟨rfl, by simp, ?_, ?_, ((Below.refl _ _).alloc (Nat.le_refl _) _).alloc (by simp) _⟩
  · exact (World.cell?_of_block (a := ⟨w.heap.size, 0, none⟩) (Below.heap_alloc _ _ _ (by simp))).trans ((cell_of_row _ _ 0 _ _ _ (heap_alloc_new _ _)).trans rfl)
  · rw [← z]
    exact (cell_of_row _ _ 0 _ _ _ (heap_alloc_new _ _)).trans rfl
structure LI (w wl : World) (lb : Nat) (l : List IdK) (W : World) : Prop where
  v : ∃ v, W.heap[lb]? = some (.cells #[v] 44 (0, 0)) ∧ OwnI W w.heap.size v l ∧ v.ownBlock ≠ some lb
  bel : Below w.heap.size w W
  sz : wl.heap.size ≤ W.heap.size
theorem OwnI.cells {w : World} {base : Nat} {v : Value} {l : List IdK} (h : OwnI w base v l) {k : Nat} (hk : v.ownBlock = some k) : base ≤ k ∧ ∃ c t z, w.heap[k]? = some (.cells c t z) := by
  rcases h.2 with ⟨rfl, _⟩ | ⟨g, cap, cur, rfl, hb, hg, _⟩
  · cases hk
  · simp only [Value.ownBlock, Option.some.injEq] at hk
    subst hk
    exact ⟨hb, cur, _, _, hg⟩
theorem LI.own {α : Type} (w wl : World) (lb : Nat) (f : List α → List IdK) (hw : w.heap.size ≤ wl.heap.size) : OwnFrom wl.heap.size (fun pre W => LI w wl lb (f pre) W) := by
  intro pre W W' row hs hg hr
  obtain ⟨⟨v, a1, a2, a3⟩, b, z⟩ := hs
  have keep : ∀ k c t q, W.heap[k]? = some (Obj.cells c t q) → W'.heap[k]? = W.heap[k]? := fun k c t q hk => hg.block k (Array.getElem?_eq_some_iff.1 hk).1 (fun e => by
    obtain ⟨_, o, ho, hc⟩ := hr k e.symm
    rw [hk] at ho; cases ho; cases hc)
  refine ⟨⟨v, (keep _ _ _ _ a1).trans a1, a2.keep (fun k hk => by obtain ⟨_, c, t, q, e⟩ := a2.cells hk; exact keep _ _ _ _ e), a3⟩, ?_, Nat.le_trans z hg.size⟩
  exact ⟨hg.os.trans b.os, hg.tape.trans b.tape, hg.output.trans b.output, Nat.le_trans b.size hg.size, fun k hk => (hg.block k (Nat.lt_of_lt_of_le hk b.size) (fun e => by have := (hr k e.symm).1; omega)).trans (b.block k hk)⟩
theorem LI.step {w wl W : World} {lb : Nat} {l : List IdK} (h : LI w wl lb l W) (hlb : lb < wl.heap.size) (hwl : w.heap.size ≤ lb) {k : IdK} (hk : k.ok) (okl : ∀ x ∈ l, x.ok) (hlen : l.length + 1 ≤ 1400000000000) : ∃ v v' w1 w2 w3, (Instr.loadAt 44 (.pointer (some ⟨lb, 0, none⟩))).run Try.prog W = .ok v W ∧
    (Instr.buildSlice 44 1 #[(0, k.v)]).run Try.prog W = .ok (.slice (some ⟨W.heap.size, 0, none⟩) 1 1) w1 ∧ (Builtin.append_ #[44, 44] 44 #[v, .slice (some ⟨W.heap.size, 0, none⟩) 1 1]).run Try.prog w1 = .ok v' w2 ∧ (Instr.storeAt 44 (.pointer (some ⟨lb, 0, none⟩)) v').run Try.prog w2 = .ok () w3 ∧
    LI w wl lb (l ++ [k]) w3 ∧ KeepsOthers W w3 ∧ Below w.heap.size W w3 := by
  obtain ⟨⟨v, a1, a2, a3⟩, b, z⟩ := h
  have eb := run_bsI k hk W
  have o1 : OwnI (W.alloc (.cells k.c.toArray 32)) w.heap.size v l := a2.below ((Below.refl _ _).alloc (Nat.le_refl _) _)
  obtain ⟨v', w2, ea, o2, g2, ow⟩ := run_appI (W.alloc (.cells k.c.toArray 32)) w.heap.size v l (some ⟨W.heap.size, 0, none⟩) [k] 1 o1 (ids_lit W k 32) (by simp [hk]) (by simp; omega) (by simp; have := b.size; omega)
  have zW : (W.alloc (.cells k.c.toArray 32)).heap.size = W.heap.size + 1 := by simp
  have l1 : (W.alloc (.cells k.c.toArray 32)).heap[lb]? = some (.cells #[v] 44 (0, 0)) := (Below.heap_alloc _ _ _ (by omega)).trans a1
  have l2 : w2.heap[lb]? = some (.cells #[v] 44 (0, 0)) := (g2.block lb (by omega) (fun e => a3 e.symm)).trans l1
  have n2 : v'.ownBlock ≠ some lb := by
    rcases ow with e | e
    · rw [e]; exact a3
    · rw [e, zW]; intro q; simp at q; omega
  obtain ⟨sa, sc, rfl, _, _⟩ := o2.open (fun x hx => by rcases List.mem_append.1 hx with q | q; exact okl x q; simp at q; rw [q]; exact hk)
  obtain ⟨es, l3⟩ := lv_store l2 sa (l ++ [k]).length sc
  have b1 : Below w.heap.size W (W.alloc (.cells k.c.toArray 32)) := ((Below.refl _ _).alloc (Nat.le_refl _) _).mono b.size
  have b2 : Below w.heap.size W w2 := b1.trans ⟨g2.os, g2.tape, g2.output, g2.size, fun j hj => g2.block j (by have := b.size; omega) (fun e => by have := (a2.cells e.symm).1; omega)⟩
  have b3 : Below w.heap.size W (w2.setCell ⟨lb, 0, none⟩ (.slice sa (l ++ [k]).length sc)) := b2.setCell (p := ⟨lb, 0, none⟩) hwl _
  refine ⟨v, _, _, w2, _, lv_load a1, eb, ea, es, ⟨⟨_, l3, o2.keep (fun j hj => ?_), n2⟩, b.trans b3, Nat.le_trans z b3.size⟩, ?_, b3⟩
  · exact Below.heap_setCell _ _ _ _ (fun e => n2 (by rw [hj]; exact congrArg some e))
  · refine ((KeepsOthers.alloc W _).trans (KeepsOthers.of_grownBy g2 (fun j o e ho => ?_))).trans (KeepsOthers.setCell _ _ _)
    obtain ⟨_, c, t, q, e2⟩ := o1.cells e
    rw [ho] at e2
    cases e2
    rfl
attribute [local go_sem] Oper.semAt_some
theorem make_ids0 (w : World) (base n : Nat) (hn : n ≤ 1400000000000) (hb : base ≤ w.heap.size) : ∃ w', (Instr.makeSlice 44 (.int .i64 0) (.int .i64 (n : Int))).run Try.prog w = .ok (.slice (some ⟨w.heap.size, 0, none⟩) 0 n) w' ∧ OwnI w' base (.slice (some ⟨w.heap.size, 0, none⟩) 0 n) [] ∧ Below w.heap.size w w' ∧ w'.heap.size = w.heap.size + 1 := by
  obtain ⟨i, hi, hz, hs, hby⟩ := info_parts infoI
  obtain ⟨w', e, o, g⟩ := run_make_own (P := Try.prog) w base 44 32 i _ 33 Try.underlying44 hi hz hs .i64 .i64 n (by rw [hby]; omega) (by unfold maxLen; omega) hb
  have hr := run_make (P := Try.prog) w 44 32 i _ Try.underlying44 hi hz .i64 .i64 0 (n : Int) (by omega) (by omega) (by rw [hby]; omega) (by omega)
  have hw := e.symm.trans hr
  simp only [Result.ok.injEq] at hw
  exact ⟨w', e, o, grown_below g, by rw [hw.2]; simp⟩
def AxL (w : World) (lb : Nat) (x : OkK) (a : Act) (W : World) : Prop := ∃ eb, a.tmps.size = 27 ∧ a.tmps.getD 5 undef = .pointer (some ⟨lb, 0, none⟩) ∧ a.tmps.getD 6 undef = .pointer (some ⟨eb, 0, none⟩) ∧ W.heap[eb]? = some (.cells (KpV.c x.1).toArray 90 (0, 0))
theorem AxL.own (w : World) (lb B : Nat) (x : OkK) (a : Act) : OwnFrom B (fun (_ : Unit) W => AxL w lb x a W) := by
  intro _ W W' row hs hg hr
  obtain ⟨eb, h1, h2, h3, h4⟩ := hs
  refine ⟨eb, h1, h2, h3, (hg.block eb (Array.getElem?_eq_some_iff.1 h4).1 (fun e => ?_)).trans h4⟩
  obtain ⟨_, o, ho, hc⟩ := hr eb e.symm
  rw [h4] at ho; cases ho; cases hc
theorem LI.alloc {w wl W : World} {lb : Nat} {l : List IdK} (h : LI w wl lb l W) (o : Obj) : LI w wl lb l (W.alloc o) := by
  obtain ⟨⟨v, a1, a2, a3⟩, b, z⟩ := h
  exact ⟨⟨v, (Below.heap_alloc _ _ _ (Array.getElem?_eq_some_iff.1 a1).1).trans a1, a2.below ((Below.refl _ _).alloc (Nat.le_refl _) _), a3⟩, b.alloc b.size _, by simp; omega⟩
section
variable {w : World} {s : Sx} {E : List Elt}
theorem visK_ids (h : Lk s E) (ok : OkS s.L) (c : Bool) : (visK ok c s.t).map (fun x => x.1.id) = (visE E c).map (·.id) := by
  unfold visK
  rw [← h.vis c, List.map_map, List.map_map]
  refine List.map_congr_left fun j hj => ?_
  have hjm : j ∈ s.t.ids := (List.mem_filter.1 hj).1
  simp only [Function.comp]
  rw [kpO_val ok (h.good.lt hjm).2]
  rfl
set_option maxHeartbeats 8000000 in
theorem list_any (h : SeqAt w s E) (c : Bool) : Calls Try.prog 54 #[.pointer (some ⟨s.sb, 0, none⟩), .int .i64 (nb c : Int)] w fun e w' => ∃ v, e = .returned v ∧ OwnI w' w.heap.size v ((visE E c).map (·.id)) ∧ Below w.heap.size w w' := by
  have hcnt := h.lk.cnt c
  have hvl : (visE E c).length ≤ E.length := List.length_filter_le _ _
  have hlen := h.lk.len
  have hll := h.row.len
  have hvK : (vis s.L c s.t).length = (visE E c).length := by rw [← h.lk.vis c, List.length_map]
  have HIDS := hidMk (visK_ids h.lk h.row.ok c)
  obtain ⟨n, hn⟩ : ∃ n, (visE E c).length = n := ⟨_, rfl⟩
  rw [hn] at hcnt hvl hvK
  have HM := hidMk (rmany_any h.row h.lk.good c)
  rw [hcnt] at HM
  obtain ⟨wm, em, om, bm, zm⟩ := make_ids0 w w.heap.size n (by omega) (Nat.le_refl _)
  refine (callsIn_wide (n := 4)).1 ?_
  refine callsIn_of_wp_marks Try.func54 rfl trivial ?_ rfl
  simp only [Try.ntmps54, List.size_toArray, List.length_cons, List.length_nil, Nat.reduceAdd, Nat.reduceSub, Array.replicate_succ, Array.replicate_zero, List.push_toArray, List.append_toArray, List.nil_append, List.cons_append]
  refine wpIn_wide.2 ?_
  have NN := hidMk hn
  have HN1 := hidMk hvK
  have HN2 := hidMk (show n ≤ 1400000000000 by omega)
  clear hn hvK hcnt hvl hlen hll
  go_upto_region 3 with fail
  have HC3 : Hid (Calls Try.prog 85 #[.pointer (some ⟨s.sb, 1, none⟩), .int .i64 (nb c : Int)] w fun e w' => e = .returned (.int .i64 (n : Int)) ∧ ∃ y1 y2 y3, (Instr.makeSlice 44 (.int .i64 0) (.int .i64 (n : Int))).run Try.prog w' = .ok (.slice (some ⟨w.heap.size, 0, none⟩) 0 n) y1 ∧ (Instr.alloc 44 true (.tuple #[])).run Try.prog y1 = .ok (.pointer (some ⟨w.heap.size + 1, 0, none⟩)) y2 ∧ (Instr.storeAt 44 (.pointer (some ⟨w.heap.size + 1, 0, none⟩)) (.slice (some ⟨w.heap.size, 0, none⟩) 0 n)).run Try.prog y2 = .ok () y3 ∧ LI w y3 (w.heap.size + 1) [] y3 ∧ w.heap.size + 1 < y3.heap.size) := by
    refine HM.out.mono ?_
    rintro e w' ⟨rfl, q⟩
    have zq : w'.heap.size = w.heap.size := by rw [q.heap]
    obtain ⟨y1, e1, o1, b1, z1⟩ := make_ids0 w' w.heap.size n HN2.out (by omega)
    obtain ⟨y2, y3, e2, e3, b3, l3, z3⟩ := lv_new y1 (some ⟨w'.heap.size, 0, none⟩) 0 n
    rw [zq] at z1 e1 o1 e3 l3
    rw [z1] at e2 e3 b3 l3 z3
    have b13 : Below w.heap.size w y3 := ((q.below _).trans (b1.mono (by omega))).trans (b3.mono (by omega))
    refine ⟨rfl, y1, y2, y3, e1, e2, e3, ⟨⟨_, l3, ?_, ?_⟩, b13, Nat.le_refl _⟩, by omega⟩
    · exact o1.keep (fun k hk => b3.block k (by simp only [Value.ownBlock, Option.some.injEq] at hk; omega))
    · simp [Value.ownBlock]
  refine li3 (fun y => LI w y (w.heap.size + 1) [] y ∧ w.heap.size + 1 < y.heap.size) _ _ _ rfl rfl rfl HC3.out ?_
  rintro a' w1 ⟨hL, z1⟩ ha
  subst ha
  clear HC3 HM em om bm zm
  simp only [Act.put, List.setIfInBounds_toArray, List.set_cons_zero, List.set_cons_succ]
  go_upto_region 4 with fail
  refine li4 (v := .func (.func 95) #[] #[.pointer (some ⟨w1.heap.size, 0, none⟩), .pointer (some ⟨w1.heap.size + 1, 0, none⟩)]) (fun w' => w'.heap.size = w1.heap.size + 2 ∧ w'.cell? ⟨w1.heap.size, 0, none⟩ = some (.pointer (some ⟨s.sb, 1, none⟩)) ∧ w'.cell? ⟨w1.heap.size + 1, 0, none⟩ = some (.int .i64 (nb c : Int)) ∧ Below w1.heap.size w1 w') _ _ _ rfl rfl rfl (walk_any w1 s.sb 1 c) ?_
  rintro a' w2 ⟨z2, c1, c2, b2⟩ ha
  subst ha
  simp only [Act.put, List.setIfInBounds_toArray, List.set_cons_zero, List.set_cons_succ]
  have b02 : Below w.heap.size w w2 := hL.bel.trans (b2.mono hL.bel.size)
  have h2 := h.below b02
  have L2 : LI w w2 (w.heap.size + 1) [] w2 := by
    obtain ⟨⟨v, a1, a2, a3⟩, b, z⟩ := hL
    exact ⟨⟨v, (b2.block _ z1).trans a1, a2.below b2, a3⟩, b02, Nat.le_refl _⟩
  have ST := hidMk (walk1_stops (4 - 1) s.sb 1 s.g s.cap w1.heap.size (w1.heap.size + 1) s.L s.t c w2 h2.row h.lk.good c1 c2)
  clear c1 c2
  go_wp2
  refine (wpIn_wide (n := 4)).1 ?_
  refine wpIn_rangeFunc_ownH (F := Fence.wide) rfl (by omega) (gf := 95) (lb := #[.pointer (some ⟨w1.heap.size, 0, none⟩), .pointer (some ⟨w1.heap.size + 1, 0, none⟩)]) rfl trivial (enters_of Try.func95 (by kernel_rfl) rfl)
    ST.out (fun h k => h.trans k) (Kl.put (fun j hj => h2.lt j (by revert hj; simp [Sx.bl]; intro q; rcases q with q | q <;> simp [q]))) (Below.refl _ _) (fun _ => rfl)
    (fun pre W => LI w w2 (w.heap.size + 1) (pre.map (fun x => x.1.id)) W)
    (fun _ _ _ => False)
    (LI.own w w2 (w.heap.size + 1) (fun pre => pre.map (fun x : OkK => x.1.id)) b02.size)
    (fun _ _ _ _ _ hs _ _ => hs)
    L2 (AxL w (w.heap.size + 1)) (AxL.own w (w.heap.size + 1) w2.heap.size) ?assign ?body ?done ?stop
  case assign =>
    intro l pre x W K hI hK
    obtain ⟨y1, e1, e2⟩ := el_new W x.1 x.2
    have hz : (#[20].zip #[KpV.v x.1] : Array (Tmp × Value)) = #[(20, KpV.v x.1)] := by simp
    rw [hz]
    simp only [List.foldl_toArray', List.foldl_cons, List.foldl_nil, List.setIfInBounds_toArray, List.set_cons_succ, List.set_cons_zero]
    refine li5 (v := KpV.v x.1) _ _ _ rfl rfl e1 e2 ?_
    intro a' W' hw ha
    obtain rfl : W' = _ := hw
    refine hK _ _ ((KeepsOthers.alloc W _).from _) (fun j hj => ?_) (hI.alloc _) ⟨W.heap.size, ?_, ?_, ?_, heap_alloc_new _ _⟩
    · have : j < w.heap.size := h.lt j (by revert hj; simp [Sx.bl]; intro q; rcases q with q | q <;> simp [q])
      exact Below.heap_alloc _ _ _ (Nat.lt_of_lt_of_le this hI.bel.size)
    · subst ha; rfl
    · subst ha; rfl
    · subst ha; rfl
  case body =>
    rintro l pre x a' W hl hr hI ⟨eb, t1, t2, t3, hE⟩ hpl
    have hpn : pre.length < n := by rw [HN1.out] at hpl; exact hpl
    obtain ⟨v, v', y1, y2, y3, e0, e1, e2, e3, hI', ko, bl⟩ := hI.step (k := x.1.id) (by omega) (by omega) x.2.id (fun q hq => by obtain ⟨z, _, rfl⟩ := List.mem_map.1 hq; exact z.2.id) (by rw [List.length_map]; have := HN2.out; omega)
    refine wpIn_block ?_
    refine li6 (k := x.1.id) _ _ _ t1 t2 t3 e0 (el_load x.2 hE) e1 e2 e3 ?_
    intro a'' W' hw ha
    obtain rfl : W' = y3 := hw
    refine ⟨ko.from _, fun j hj => ?_, ?_⟩
    · have : j < w.heap.size := h.lt j (by revert hj; simp [Sx.bl]; intro q; rcases q with q | q <;> simp [q])
      exact bl.block j this
    · simp only [List.map_append, List.map_cons, List.map_nil]
      exact hI'
  case done =>
    rintro D ys W hD rfl hI hK
    obtain ⟨⟨v, a1, a2, a3⟩, b, z⟩ := hI
    rw [HIDS.out] at a2
    have LV := hidMk (lv_load a1)
    have kb : ∀ k, k ≠ D → (W.putObj D (.deferred none)).heap[k]? = W.heap[k]? := fun k hk => World.putObj_heap_other hk
    have bD : Below w.heap.size W (W.putObj D (.deferred none)) := (Below.refl _ W).grown (grownBy_putObj' W D (.deferred none)) (Nat.le_trans b02.size z) (fun k e => by cases e; have := b02.size; omega)
    have RES := hidMk (show OwnI (W.putObj D (.deferred none)) w.heap.size v ((visE E c).map (·.id)) from a2.keep (fun k hk => kb k (fun e => by
      obtain ⟨_, cc, t, q, e2⟩ := a2.cells hk
      rw [e, hK] at e2
      cases e2)))
    have RB := hidMk (b.trans bD)
    clear a1 a2 a3
    gi_wp2
    go_upto_region 7 with fail
    refine li7 (u := v) _ _ _ rfl rfl LV.out ?_
    intro a' w3 hw ha
    subst ha
    obtain rfl : w3 = W := hw
    simp only [Act.put, List.setIfInBounds_toArray, List.set_cons_zero, List.set_cons_succ]
    go_wp2
    refine ⟨by simp, .inl ⟨_, _, rfl, run_takeDeferred hK, ?_⟩⟩
    exact ⟨_, results_tmp (t := 4) rfl _ _ _, v, rfl, RES.out, RB.out⟩
  case stop =>
    rintro D c pre W _ _ h _
    exact h.elim
theorem ids_any (h : SeqAt w s E) : Calls Try.prog 22 #[.pointer (some ⟨s.sb, 0, none⟩)] w fun e w' => ∃ v, e = .returned v ∧ OwnI w' w.heap.size v ((visE E false).map (·.id)) ∧ Below w.heap.size w w' := by
  have HA : Hid (Calls Try.prog 54 #[.pointer (some ⟨s.sb, 0, none⟩), .int .i64 0] w fun e w' => ∃ v, e = .returned v ∧ OwnI w' w.heap.size v ((visE E false).map (·.id)) ∧ Below w.heap.size w w') := list_any h false
  go_enter Try.func22, Try.ntmps22
  go_wp2_with (first
    | (go_at_call 54; refine HA.out.mono ?_; rintro e w' ⟨v, rfl, ho, hb⟩)
    | fail)
  go_ret
  exact ⟨v, rfl, ho, hb⟩
theorem live_any (h : SeqAt w s E) : Calls Try.prog 29 #[.pointer (some ⟨s.sb, 0, none⟩)] w fun e w' => ∃ v, e = .returned v ∧ OwnI w' w.heap.size v ((visE E true).map (·.id)) ∧ Below w.heap.size w w' := by
  have HA : Hid (Calls Try.prog 54 #[.pointer (some ⟨s.sb, 0, none⟩), .int .i64 1] w fun e w' => ∃ v, e = .returned v ∧ OwnI w' w.heap.size v ((visE E true).map (·.id)) ∧ Below w.heap.size w w') := list_any h true
  go_enter Try.func29, Try.ntmps29
  go_wp2_with (first
    | (go_at_call 54; refine HA.out.mono ?_; rintro e w' ⟨v, rfl, ho, hb⟩)
    | fail)
  go_ret
  exact ⟨v, rfl, ho, hb⟩
end
theorem good_new : Good [zSp] .nil := by
  refine ⟨⟨trivial, ⟨by simp, rfl, rfl⟩, by simp [T.ids, cids], fun w => by cases w <;> rfl⟩, trivial, fun i h0 h1 => ?_⟩
  simp at h1; omega
theorem zSp_ok : OkS [zSp] := fun x hx => by
  rw [List.mem_singleton.1 hx]; exact zK_ok
theorem lk_new (sb mb g cap : Nat) : Lk ⟨sb, mb, g, cap, [zSp], .nil, []⟩ [] := by
  refine ⟨good_new, rfl, ⟨by simp, by simp, by simp⟩, fun k n => ?_, rfl, fun n hn => ?_⟩
  · constructor
    · intro h; cases h
    · rintro ⟨h, _⟩; simp [T.ids] at h
  · rcases hn with rfl | h
    · rfl
    · simp [T.ids] at h
theorem make_sp (w : World) : (Instr.makeSlice 85 (.int .i64 1) (.int .i64 1)).run Try.prog w = .ok (.slice (some ⟨w.heap.size, 0, none⟩) 1 1) (w.alloc (.cells (Sp.c zSp).toArray 113)) := by kernel_rfl
theorem results_c1 {P : Program} {fn : Func} {a : Nat} {t : TypeId} (h : fn.results = #[.cell a t]) {tmps : Array Value} {w : World} {p : Addr} {v : Value} (ha : tmps.getD a undef = .pointer (some p)) (hl : (loadVar t p).run P w = .ok v w) :
    (results fn tmps).run P w = .ok v w := by
  rw [Array.getD_eq_getD_getElem?] at ha
  simp [results, h, asAddr, ha, hl, Array.mapM_eq_mapM_toList, Result.andThen]
theorem newRow_any (w : World) : Calls Try.prog 33 #[] w fun e w' => e = .returned (.agg #[.slice (some ⟨w.heap.size + 1, 0, none⟩) 1 1]) ∧ w'.heap[w.heap.size + 1]? = some (.cells (Sp.c zSp).toArray 113 (0, 0)) ∧ w'.heap.size = w.heap.size + 2 ∧ Below w.heap.size w w' := by
  go_enter Try.func33, Try.ntmps33
  go_wp2_with (first
    | (refine wpList_run rfl (exec_makeSlice rfl rfl rfl (make_sp _)) ?_)
    | fail)
  have z : (w.alloc (.cells #[.slice (some ⟨w.heap.size + 1, 0, none⟩) 1 1] 87)).heap.size = w.heap.size + 1 := by simp
  have hb : ((w.alloc (.cells #[.slice (some ⟨w.heap.size + 1, 0, none⟩) 1 1] 87)).alloc (.cells (Sp.c zSp).toArray 113)).heap[w.heap.size]? = some (.cells [Value.slice (some ⟨w.heap.size + 1, 0, none⟩) 1 1].toArray 87 (0, 0)) := (Below.heap_alloc _ _ _ (by simp)).trans (heap_alloc_new _ _)
  have hl := run_loadVar_mid (P := Try.prog) _ w.heap.size 0 87 [Value.slice (some ⟨w.heap.size + 1, 0, none⟩) 1 1] _ (cells_range hb) Try.underlying87 rfl (by kernel_rfl)
  refine bodyPost_ret (results_c1 rfl rfl hl) rfl ?_
  refine ⟨rfl, ?_, by simp, ((Below.refl _ _).alloc (Nat.le_refl _) _).alloc (by simp) _⟩
  have hn := heap_alloc_new (w.alloc (.cells #[.slice (some ⟨w.heap.size + 1, 0, none⟩) 1 1] 87)) (.cells (Sp.c zSp).toArray 113)
  rw [z] at hn
  exact hn
theorem new_any (w : World) : Calls Try.prog 7 #[] w fun e w' => ∃ s, e = .returned (.pointer (some ⟨s.sb, 0, none⟩)) ∧ SeqAt w' s [] ∧ (∀ j ∈ s.bl, w.heap.size ≤ j) ∧ Below w.heap.size w w' := by
  have HR : Hid (∀ W, Calls Try.prog 33 #[] W fun e w' => e = .returned (.agg #[.slice (some ⟨W.heap.size + 1, 0, none⟩) 1 1]) ∧ w'.heap[W.heap.size + 1]? = some (.cells (Sp.c zSp).toArray 113 (0, 0)) ∧ w'.heap.size = W.heap.size + 2 ∧ Below W.heap.size W w') := newRow_any
  have hm := M.MapAt.new w IdK.v IdK.ok
  have bm : Below w.heap.size w (w.alloc (.map #[] 0)) := (Below.refl _ _).alloc (Nat.le_refl _) _
  have zm : (w.alloc (.map #[] 0)).heap.size = w.heap.size + 1 := by simp
  go_enter Try.func7, Try.ntmps7
  have MK : Hid (∀ W : World, (Instr.makeMap 84 none).run Try.prog W = .ok (.map (some W.heap.size)) (W.alloc (.map #[] 0))) := fun W => by kernel_rfl
  go_wp2_with (first
    | (refine wpList_run rfl (exec_makeMap rfl (MK.out _)) ?_)
    | (go_at_call 33; generalize w.alloc (.map #[] 0) = wm at *; refine (HR.out _).mono ?_; rintro e w1 ⟨rfl, h1, z1, b1⟩)
    | fail)
  rw [zm] at h1 z1 b1
  have hq := heap_alloc_new w1 (.cells #[.map (some w.heap.size), .slice (some ⟨w.heap.size + 1 + 1, 0, none⟩) 1 1] 92)
  have bq : Below w1.heap.size w1 (w1.alloc (.cells #[.map (some w.heap.size), .slice (some ⟨w.heap.size + 1 + 1, 0, none⟩) 1 1] 92)) := (Below.refl _ _).alloc (Nat.le_refl _) _
  go_ret
  generalize w1.alloc (.cells #[.map (some w.heap.size), .slice (some ⟨w.heap.size + 1 + 1, 0, none⟩) 1 1] 92) = w2 at *
  rw [z1] at hq bq
  have hg : w2.heap[w.heap.size + 1 + 1]? = some (.cells (Sp.c zSp).toArray 113 (0, 0)) := (bq.block _ (by omega)).trans h1
  refine ⟨⟨w.heap.size + 1 + 2, w.heap.size, w.heap.size + 1 + 1, 1, [zSp], .nil, []⟩, rfl, ⟨?_, ⟨?_, ⟨?_, .inr ⟨w.heap.size + 1 + 1, 1, _, rfl, Nat.zero_le _, hg, Nat.le_refl _, by decide, ?_, ?_⟩⟩, ?_, by show w.heap.size + 1 + 2 ≠ w.heap.size + 1 + 1; omega, by show 1 ≤ 1400000000000; omega, _, _, hq⟩, ?_, ⟨by show w.heap.size + 1 + 2 ≠ w.heap.size; omega, by show w.heap.size + 1 + 1 ≠ w.heap.size; omega⟩, lk_new _ _ _ _⟩, ?_, ?_⟩
  · exact (cell_of_row _ _ 0 _ _ _ hq).trans rfl
  · exact (cell_of_row _ _ 1 _ _ _ hq).trans rfl
  · show (flatS [zSp]).length = 1 * 73
    rw [flatS_len zSp_ok]; rfl
  · show (Sp.c zSp).toArray.size = 1 * 73
    rw [List.size_toArray, Sp.len zK_ok]
  · show ((Sp.c zSp).toArray.toList).take (1 * 73) = flatS [zSp]
    rw [List.toList_toArray, List.take_of_length_le (by rw [Sp.len zK_ok]; omega)]
    simp [flatS]
  · exact zSp_ok
  · exact hm.below ((bq.block _ (by show w.heap.size < _; omega)).trans (b1.block _ (by show w.heap.size < _; omega)))
  · intro j hj
    simp only [Sx.bl, List.mem_cons, List.not_mem_nil, or_false] at hj
    rcases hj with rfl | rfl | rfl <;> omega
  · exact (bm.trans (b1.mono (by omega))).trans (bq.mono (by omega))
end Go.Proofs.Ytlejbdepoemcjaa
namespace Go.Proofs.Ytlejbdepoemcjaa
open Go.RowKit Sq
set_option linter.unusedVariables false
set_option linter.unusedSimpArgs false
structure PutV where
  id : IdK
  bh : IdK
def PutV.c (p : PutV) : List Value := p.id.c ++ p.bh.c
def PutV.v (p : PutV) : Value := .agg p.c.toArray
structure PutV.ok (p : PutV) : Prop where
  id : p.id.ok
  bh : p.bh.ok
theorem PutV.len {p : PutV} (h : p.ok) : p.c.length = 66 := by simp [PutV.c, IdK.len h.id, IdK.len h.bh]
theorem PutV.one (p : PutV) : ∀ v ∈ p.c, v.oneCell' = true := by
  intro v hv
  rcases List.mem_append.1 hv with h | h
  · exact IdK.one _ v h
  · exact IdK.one _ v h
def PutsAt (w : World) (a : Option Addr) (L : List PutV) : Prop := L = [] ∨ ∃ b off, a = some ⟨b, off, none⟩ ∧ b < w.heap.size ∧ ∀ i h, L[i]? = some h → w.rangeAt b (off + 66 * i) (PutV.c h)
theorem PutsAt.below {w w' : World} {a : Option Addr} {L : List PutV} (h : PutsAt w a L) (hb : Below w.heap.size w w') : PutsAt w' a L := by
  rcases h with h | ⟨b, off, e, hl, hr⟩
  · exact .inl h
  · exact .inr ⟨b, off, e, Nat.lt_of_lt_of_le hl hb.size, fun i x hx => rangeAt_keep (hr i x hx) (hb.block b hl)⟩
def flatP (L : List PutV) : List Value := L.flatMap PutV.c
theorem flatP_get : ∀ {L : List PutV}, (∀ h ∈ L, h.ok) → ∀ {i : Nat} {h : PutV}, L[i]? = some h → ∀ {j : Nat} {v : Value}, (PutV.c h)[j]? = some v → (flatP L)[66 * i + j]? = some v
  | x :: L, ok, 0, h, hi, j, v, hj => by
    simp only [List.getElem?_cons_zero, Option.some.injEq] at hi
    subst hi
    have hl := (List.getElem?_eq_some_iff.1 hj).1
    rw [Nat.mul_zero, Nat.zero_add, flatP, List.flatMap_cons, List.getElem?_append_left hl]
    exact hj
  | x :: L, ok, i + 1, h, hi, j, v, hj => by
    simp only [List.getElem?_cons_succ] at hi
    have := flatP_get (L := L) (fun h hh => ok h (by simp [hh])) hi hj
    have l := PutV.len (ok x (by simp))
    rw [flatP, List.flatMap_cons, List.getElem?_append_right (by omega), l, show 66 * (i + 1) + j - 66 = 66 * i + j by omega]
    exact this
  | [], _, i, h, hi, _, _, _ => by simp at hi
def OwnP (w : World) (base : Nat) (v : Value) (L : List PutV) : Prop := w.ownsRow base 75 66 v L.length (flatP L)
theorem OwnP.below {w w' : World} {base : Nat} {v : Value} {L : List PutV} (h : OwnP w base v L) (hb : Below w.heap.size w w') : OwnP w' base v L := by
  refine ⟨h.1, ?_⟩
  rcases h.2 with hn | ⟨g, cap, cur, rfl, hbg, hg, rest⟩
  · exact .inl hn
  · exact .inr ⟨g, cap, cur, rfl, hbg, by rw [hb.block g (Array.getElem?_eq_some_iff.1 hg).1]; exact hg, rest⟩
theorem OwnP.keep {w w' : World} {base : Nat} {v : Value} {L : List PutV} (h : OwnP w base v L) (hk : ∀ k, v.ownBlock = some k → w'.heap[k]? = w.heap[k]?) : OwnP w' base v L := by
  refine ⟨h.1, ?_⟩
  rcases h.2 with hn | ⟨g, cap, cur, rfl, hbg, hg, rest⟩
  · exact .inl hn
  · exact .inr ⟨g, cap, cur, rfl, hbg, by rw [hk g rfl]; exact hg, rest⟩
theorem OwnP.open {w : World} {base : Nat} {v : Value} {L : List PutV} (h : OwnP w base v L) (ok : ∀ h ∈ L, h.ok) : ∃ a c, v = .slice a L.length c ∧ PutsAt w a L ∧ L.length ≤ c := by
  rcases h.2 with ⟨rfl, hn⟩ | ⟨g, cap, cur, rfl, hbg, hg, hnc, hcm, hcs, htake⟩
  · obtain rfl : L = [] := List.eq_nil_of_length_eq_zero hn
    exact ⟨none, 0, rfl, .inl rfl, Nat.le_refl _⟩
  · refine ⟨some ⟨g, 0, none⟩, cap, rfl, .inr ⟨g, 0, rfl, (Array.getElem?_eq_some_iff.1 hg).1, fun i x hx j u hj => ?_⟩, hnc⟩
    have e := flatP_get ok hx hj
    rw [Nat.zero_add, cell_of_row w g _ cur 75 (0, 0) hg]
    rw [← htake, List.getElem?_take] at e
    split at e
    · simpa using e
    · cases e
section
variable {w : World} {b o : Nat} {p : PutV}
theorem ld_pid (hp : p.ok) (h : w.rangeAt b o p.c) : (Instr.loadAt 32 (.pointer (some ⟨b, o + 0, none⟩))).run Try.prog w = .ok p.id.v w :=
  run_loadAt_mid (P := Try.prog) w b o 32 p.id.c _ (fun j v hv => h j v (by rw [PutV.c, List.getElem?_append_left (List.getElem?_eq_some_iff.1 hv).1]; exact hv)) Try.underlying32 rfl (by rw [IdK.len hp.id]; exact szId)
theorem ld_pbh (hp : p.ok) (h : w.rangeAt b o p.c) : (Instr.loadAt 32 (.pointer (some ⟨b, o + 33, none⟩))).run Try.prog w = .ok p.bh.v w :=
  run_loadAt_mid (P := Try.prog) w b (o + 33) 32 p.bh.c _ (fun j v hv => by rw [Nat.add_assoc]; exact h (33 + j) v (by rw [PutV.c, List.getElem?_append_right (by rw [IdK.len hp.id]; omega), IdK.len hp.id, show 33 + j - 33 = j by omega]; exact hv)) Try.underlying32 rfl (by rw [IdK.len hp.bh]; exact szId)
end
theorem ix_put {b o m c i : Nat} (hi : i < m) (hm : m ≤ 1400000000000) (W : World) : (Instr.indexAt 43 (.slice (some ⟨b, o, none⟩) m c) (.int .i64 (i : Int))).run Try.prog W = .ok (.pointer (some ⟨b, o + 66 * i, none⟩)) W := by
  have : (Instr.indexAt 43 (.slice (some ⟨b, o, none⟩) m c) (.int .i64 (i : Int))).run Try.prog W = .ok (.pointer (some ⟨b, o + i * 66, none⟩)) W := by go_simp
  rw [this, Nat.mul_comm]
theorem fg_75_0 (b o : Nat) (W : World) : (Instr.fieldAt 75 (.pointer (some ⟨b, o, none⟩)) 0).run Try.prog W = .ok (.pointer (some ⟨b, o + 0, none⟩)) W := by go_simp
theorem fg_75_1 (b o : Nat) (W : World) : (Instr.fieldAt 75 (.pointer (some ⟨b, o, none⟩)) 1).run Try.prog W = .ok (.pointer (some ⟨b, o + 33, none⟩)) W := by go_simp
end Go.Proofs.Ytlejbdepoemcjaa
namespace Go.Proofs.Ytlejbdepoemcjaa
open Go.ChangeShapes Go.WideShapes Go.ChangeAt Go.RowKit
set_option linter.unusedVariables false
set_option linter.unusedSimpArgs false
def RowAt {κ : Type} (k : Nat) (encd : κ → List Value) (w : World) (a : Option Addr) (L : List κ) : Prop := L = [] ∨ ∃ b off, a = some ⟨b, off, none⟩ ∧ b < w.heap.size ∧ ∀ i x, L[i]? = some x → w.rangeAt b (off + i * k) (encd x)
theorem RowAt.below {κ : Type} {k : Nat} {encd : κ → List Value} {w w' : World} {a : Option Addr} {L : List κ} (h : RowAt k encd w a L) (hb : Below w.heap.size w w') : RowAt k encd w' a L := by
  rcases h with h | ⟨b, off, e, hl, hr⟩
  · exact .inl h
  · exact .inr ⟨b, off, e, Nat.lt_of_lt_of_le hl hb.size, fun i x hx => rangeAt_keep (hr i x hx) (hb.block b hl)⟩
theorem RowAt.keep {κ : Type} {k : Nat} {encd : κ → List Value} {w w' : World} {a : Option Addr} {L : List κ} {N : Nat} (h : RowAt k encd w a L) (hN : N = w.heap.size) (hb : Below N w w') : RowAt k encd w' a L := by
  subst hN
  exact h.below hb
section
variable {H : Type} {enc : TypeId × Value → H} {W : World}
theorem view_rows {κ : Type} {T e k : Nat} {encd : κ → List Value} {ok : κ → Prop} (hT : Try.prog.underlying T = some (.slice e)) (hce : Try.prog.cellsOf e = k) (hk : 0 < k) (hlen : ∀ x, ok x → (encd x).length = k)
    (hcells : ∀ (fuel : Nat) (cs : List Value) (y : DataW H × List MemPlace), DataW.trod enc Try.prog W 0 (fun _ => true) true fuel e cs = some y → ∃ x, ok x ∧ cs = encd x)
    {a : Option Addr} {len cap : Nat} {d : DataW H} {p : List MemPlace} (h : DataW.Trod enc Try.prog W 0 (fun _ => true) true T (.slice a len cap) d p) :
    ∃ L : List κ, L.length = len ∧ (∀ x ∈ L, ok x) ∧ RowAt k encd W a L ∧ (d = .nil ∧ len = 0 ∨ ∃ el sp, d = .slice el sp ∧ el.length = len) := by
  obtain ⟨fuel, hf⟩ := h
  rcases DataW.trod_slice hT hf with ⟨hcs', hx⟩ | ⟨ad, l, c, elems, rest, n, _, hcs', hx, _, hl, hm, hel, hcell, _, _⟩
  · simp [Value.cells] at hcs'
    obtain ⟨rfl, rfl, rfl⟩ := hcs'
    simp only [Prod.mk.injEq] at hx
    exact ⟨[], rfl, fun v hv => (by cases hv), .inl rfl, .inl ⟨hx.1, rfl⟩⟩
  · simp [Value.cells] at hcs'
    obtain ⟨rfl, rfl, rfl⟩ := hcs'
    simp only [Prod.mk.injEq] at hx
    obtain ⟨b, off, spot⟩ := ad
    have raw : ∀ i, i < len → ∃ v : κ, ok v ∧ ∀ j u, (encd v)[j]? = some u → W.cell? (((⟨b, off, spot⟩ : Addr).add (i * k)).add j) = some u := fun i hi => by
      have hi2 := hcell i hi
      rw [List.getElem?_eq_getElem (by omega), hce, Option.bind_eq_some_iff] at hi2
      obtain ⟨cs, hc1, hc2⟩ := hi2
      obtain ⟨v, hv, rfl⟩ := hcells _ _ _ hc2
      obtain ⟨_, _, hc3⟩ := World.cells?_some hc1
      refine ⟨v, hv, fun j u hu => ?_⟩
      have hj := (List.getElem?_eq_some_iff.1 hu).1
      rw [hlen v hv] at hj
      rw [hc3 j hj]
      exact hu
    have hspot : 0 < len → spot = none ∧ b < W.heap.size := fun h0 => by
      obtain ⟨v, hv, hc⟩ := raw 0 h0
      have q := hc 0 _ (List.getElem?_eq_getElem (by rw [hlen v hv]; omega))
      have q1 := World.cell?_spot q
      have q2 : spot = none := by simpa [Addr.add] using q1
      subst q2
      refine ⟨rfl, ?_⟩
      rw [Addr.add_mid, Addr.add_mid] at q
      exact block_lt_of_cell q
    by_cases h0 : 0 < len
    · obtain ⟨hs, hb⟩ := hspot h0
      subst hs
      obtain ⟨v0, _⟩ := raw 0 h0
      let F : Nat → κ := fun i => if h : i < len then Classical.choose (raw i h) else v0
      have hF : ∀ i (h : i < len), F i = Classical.choose (raw i h) := fun i h => dif_pos h
      refine ⟨(List.range len).map F, by simp, fun v hv => ?_, ?_, .inr ⟨_, _, hx.1, by simp [hel]⟩⟩
      · rw [List.mem_map] at hv
        obtain ⟨i, hi, rfl⟩ := hv
        rw [List.mem_range] at hi
        rw [hF i hi]
        exact (Classical.choose_spec (raw i hi)).1
      · refine .inr ⟨b, off, rfl, hb, fun i v hv => ?_⟩
        have hi : i < len := by
          have := (List.getElem?_eq_some_iff.1 hv).1
          simpa using this
        rw [List.getElem?_map, List.getElem?_range hi] at hv
        simp only [Option.map_some, Option.some.injEq] at hv
        subst hv
        rw [hF i hi]
        intro j u hu
        have := (Classical.choose_spec (raw i hi)).2 j u hu
        rwa [Addr.add_mid, Addr.add_mid] at this
    · obtain rfl : len = 0 := by omega
      exact ⟨[], rfl, fun v hv => (by cases hv), .inl rfl, .inr ⟨_, _, hx.1, by simp [hel]⟩⟩
theorem i64_wf {z : Int} (h : (Lit.int .i64 z).wf = true) : -9223372036854775808 ≤ z ∧ z ≤ 9223372036854775807 := by
  simp [Lit.wf, IntKind.min, IntKind.max, IntKind.signed, IntKind.bits] at h
  omega
theorem u8_wf {z : Int} (h : (Lit.int .u8 z).wf = true) : 0 ≤ z ∧ z ≤ 255 := by
  simp [Lit.wf, IntKind.min, IntKind.max, IntKind.signed, IntKind.bits] at h
  omega
def intV : Value → Int
  | .int _ z => z
  | _ => 0
theorem cells_int : Try.prog.cellsOf 3 = 1 := by kernel_rfl
theorem cells_hash : Try.prog.cellsOf 30 = 32 := by kernel_rfl
theorem cells_id : Try.prog.cellsOf 32 = 33 := by kernel_rfl
theorem hash_cells {fuel : Nat} {cs : List Value} {y : DataW H × List MemPlace} (h : DataW.trod enc Try.prog W 0 (fun _ => true) true fuel 30 cs = some y) : ∃ l : List UInt8, l.length = 32 ∧ cs = hcs l := by
  obtain ⟨xs, m, _, _, hlen, hxs, hall⟩ := DataW.trod_array Try.underlying30 h
  rw [cells_hash] at hlen
  have hce : Try.prog.cellsOf 5 = 1 := by kernel_rfl
  have key : ∀ i (hi : i < cs.length), ∃ z : Int, cs[i] = .int .u8 z ∧ 0 ≤ z ∧ z ≤ 255 := by
    intro i hi
    have h1 := hall i (by omega)
    rw [hce, Nat.mul_one, List.getElem?_eq_getElem (by omega)] at h1
    obtain ⟨z, e0, _, w0⟩ := DataW.trod_int Try.underlying5 h1
    have hb := u8_wf w0
    refine ⟨z, ?_, hb.1, hb.2⟩
    rw [List.drop_eq_getElem_cons hi, List.take_succ_cons, List.take_zero] at e0
    exact (List.cons.inj e0).1
  refine ⟨cs.map (fun v => UInt8.ofNat (intV v).toNat), by simpa using hlen, ?_⟩
  apply List.ext_getElem
  · simp [hcs, bs]
  · intro i h1 h2
    obtain ⟨z, hz, z0, z1⟩ := key i h1
    simp only [hcs, bs, List.map_map, List.getElem_map, Function.comp_apply]
    rw [hz]
    simp only [intV, Value.int.injEq, true_and]
    rw [UInt8.toNat_ofNat']
    omega
theorem list_split {α : Type} {l : List α} {n m : Nat} (h : l.length = n + m) : ∃ a b, l = a ++ b ∧ a.length = n ∧ b.length = m := ⟨l.take n, l.drop n, (List.take_append_drop n l).symm, by simp; omega, by simp; omega⟩
theorem id_cells {fuel : Nat} {cs : List Value} {y : DataW H × List MemPlace} (h : DataW.trod enc Try.prog W 0 (fun _ => true) true fuel 32 cs = some y) : ∃ x : IdK, x.ok ∧ cs = x.c := by
  obtain ⟨y0, y1, n, _, hcl, h0, h1⟩ := trod_struct2 Try.underlying32 h
  rw [cells_id] at hcl
  obtain ⟨A, B, rfl, hA, hB⟩ := list_split (n := 32) (m := 1) hcl
  simp only [cells_hash, cells_int, List.drop_zero] at h0 h1
  rw [← hA, List.take_left] at h0
  rw [← hA, List.drop_left, List.take_of_length_le (by omega)] at h1
  obtain ⟨k, hk, rfl⟩ := hash_cells h0
  obtain ⟨z, e0, _, w0⟩ := DataW.trod_int Try.underlying3 h1
  subst e0
  have b := i64_wf w0
  exact ⟨⟨k, z⟩, ⟨hk, b.1, b.2⟩, rfl⟩
end
theorem cells_put : Try.prog.cellsOf 75 = 66 := by kernel_rfl
theorem put_cells {H : Type} {enc : TypeId × Value → H} {W : World} (fuel : Nat) (cs : List Value) (y : DataW H × List MemPlace) (h : DataW.trod enc Try.prog W 0 (fun _ => true) true fuel 75 cs = some y) : ∃ x : PutV, x.ok ∧ cs = x.c := by
  obtain ⟨y0, y1, n, _, hcl, h0, h1⟩ := trod_struct2 Try.underlying75 h
  rw [cells_put] at hcl
  obtain ⟨A, B, rfl, hA, hB⟩ := list_split (n := 33) (m := 33) hcl
  simp only [cells_id, List.drop_zero] at h0 h1
  rw [← hA, List.take_left] at h0
  rw [← hA, List.drop_left, List.take_of_length_le (by omega)] at h1
  obtain ⟨k, hk, rfl⟩ := id_cells h0
  obtain ⟨q, hq, rfl⟩ := id_cells h1
  exact ⟨⟨k, q⟩, ⟨hk, hq⟩, rfl⟩
theorem view_puts {H : Type} {enc : TypeId × Value → H} {W : World} {a : Option Addr} {len cap : Nat} {d : DataW H} {p : List MemPlace} (h : DataW.Trod enc Try.prog W 0 (fun _ => true) true 43 (.slice a len cap) d p) :
    ∃ L : List PutV, L.length = len ∧ (∀ x ∈ L, x.ok) ∧ PutsAt W a L ∧ (d = .nil ∧ len = 0 ∨ ∃ el sp, d = .slice el sp ∧ el.length = len) := by
  obtain ⟨L, h1, h2, h3, h4⟩ := view_rows Try.underlying43 cells_put (by omega) (fun x hx => PutV.len hx) put_cells h
  refine ⟨L, h1, h2, ?_, h4⟩
  rcases h3 with h3 | ⟨b, off, e, hl, hr⟩
  · exact .inl h3
  · exact .inr ⟨b, off, e, hl, fun i x hx => by rw [Nat.mul_comm]; exact hr i x hx⟩
end Go.Proofs.Ytlejbdepoemcjaa
namespace Go.Proofs.Ytlejbdepoemcjaa
open Go.ChangeShapes Go.WideShapes Go.ChangeAt Go.RowKit
set_option linter.unusedVariables false
theorem bulk_one {H : Type} (d : DataW H) : 1 ≤ Rows.uptoBulk d := by
  cases d with
  | lit l => cases l <;> simp [Rows.uptoBulk]
  | _ => simp [Rows.uptoBulk]
theorem bulk_len {H : Type} (l : List (DataW H)) : l.length ≤ Rows.uptoBulkAll l := by
  induction l with
  | nil => simp [Rows.uptoBulkAll]
  | cons x r ih => have := bulk_one x; simp only [Rows.uptoBulkAll, List.length_cons]; omega
theorem bulk_ops {H : Type} {d : DataW H} {n : Nat} (h : d = .nil ∧ n = 0 ∨ ∃ el sp, d = .slice el sp ∧ el.length = n) (hb : Rows.uptoBulk d ≤ 1048576) : n ≤ 1048576 := by
  rcases h with ⟨_, h2⟩ | ⟨el, sp, rfl, h2⟩
  · omega
  · have := bulk_len el
    simp only [Rows.uptoBulk] at hb
    omega
theorem whole_any {H : Type} {o : Option (List (DataW H) × List (DataW H) × List MemPlace)} (h : (match o with | some (d, [], _) => Rows.uptoSmall H (d ++ []) | _ => false) = true) : ∃ d places, o = some (d, [], places) ∧ Rows.uptoSmall H (d ++ []) = true := by
  match o, h with
  | some (d, [], pl), h => exact ⟨d, pl, rfl, h⟩
  | some (_, _ :: _, _), h => cases h
  | none, h => cases h
end Go.Proofs.Ytlejbdepoemcjaa
namespace Go.Proofs.Ytlejbdepoemcjaa.B
open Go.RowKit
set_option linter.unusedVariables false
set_option linter.unusedSimpArgs false
def rpC (n : Nat) (x : List Value) : List Value := (List.replicate n x).flatten
theorem rpC_len (n : Nat) (x : List Value) : (rpC n x).length = n * x.length := by simp [rpC]
theorem rpC_cons (n : Nat) (x : List Value) : rpC (n + 1) x = x ++ rpC n x := by simp [rpC, List.replicate_succ]
theorem rpC_succ (n : Nat) (x : List Value) : rpC n x ++ x = rpC (n + 1) x := by
  unfold rpC
  rw [List.replicate_succ', List.flatten_append]
  simp
theorem rpC_get {x : List Value} {j : Nat} (hj : j < x.length) : ∀ {n k : Nat}, k < n → (rpC n x)[k * x.length + j]? = x[j]?
  | 0, k, h => by omega
  | n + 1, 0, h => by rw [rpC_cons, Nat.zero_mul, Nat.zero_add, List.getElem?_append_left hj]
  | n + 1, k + 1, h => by
    rw [rpC_cons, List.getElem?_append_right (by rw [Nat.succ_mul]; omega), show (k + 1) * x.length + j - x.length = k * x.length + j by rw [Nat.succ_mul]; omega]
    exact rpC_get hj (by omega)
theorem rpC_pre (n m : Nat) (x : List Value) {j : Nat} (hj : j < n * x.length) : (rpC (n + m) x)[j]? = (rpC n x)[j]? := by
  have hx : 0 < x.length := by
    rcases Nat.eq_zero_or_pos x.length with h | h
    · rw [h] at hj; omega
    · exact h
  have h1 : j / x.length < n := (Nat.div_lt_iff_lt_mul hx).2 hj
  have h2 : j = j / x.length * x.length + j % x.length := by rw [Nat.mul_comm]; exact (Nat.div_add_mod j x.length).symm
  rw [h2, rpC_get (Nat.mod_lt _ hx) (by omega), rpC_get (Nat.mod_lt _ hx) h1]
def fillC (k : Nat) (x L : List Value) : List Value := rpC k x ++ L.drop (k * x.length)
theorem fillC_zero (x L : List Value) : fillC 0 x L = L := by simp [fillC, rpC]
theorem fillC_all {n : Nat} {x L : List Value} (h : L.length = n * x.length) : fillC n x L = rpC n x := by
  unfold fillC
  rw [← h, List.drop_length, List.append_nil]
def RdC (w : World) (a : Option Addr) (n : Nat) (x : List Value) : Prop := n = 0 ∨ ∃ b off, a = some ⟨b, off, none⟩ ∧ ∀ j u, (rpC n x)[j]? = some u → w.cell? ⟨b, off + j, none⟩ = some u
theorem RdC.grown {w w' : World} {a : Option Addr} {n : Nat} {x : List Value} {row : Option Nat} (h : RdC w a n x) (gr : w.grownBy w' row) (hne : 0 < n → ∀ b off, a = some ⟨b, off, none⟩ → some b ≠ row) : RdC w' a n x := by
  rcases h with rfl | ⟨b, off, rfl, hc⟩
  · exact .inl rfl
  · rcases Nat.eq_zero_or_pos n with h0 | h0
    · exact .inl h0
    · exact .inr ⟨b, off, rfl, fun j u hj => gr.cell (hc j u hj) (hne h0 b off rfl)⟩
theorem RdC.below {w w' : World} {a : Option Addr} {n : Nat} {x : List Value} (h : RdC w a n x) (hb : Below w.heap.size w w') : RdC w' a n x := by
  rcases h with rfl | ⟨b, off, rfl, hc⟩
  · exact .inl rfl
  · exact .inr ⟨b, off, rfl, fun j u hj => (hb.cell (p := ⟨b, off + j, none⟩) (block_lt_of_cell (hc j u hj))).trans (hc j u hj)⟩
theorem own_rd {w : World} {base e sz : Nat} {a : Option Addr} {n c : Nat} {x : List Value} (h : w.ownsRow base e sz (.slice a n c) n (rpC n x)) : RdC w a n x := by
  have hc := fun g hg => World.ownsRow.cells h (g := g) hg
  rcases h.2 with ⟨_, hn⟩ | ⟨g, cap, cur, ev, _⟩
  · exact .inl hn
  · cases ev
    refine .inr ⟨g, 0, rfl, fun j u hj => ?_⟩
    have := hc g rfl j u hj
    rw [Addr.add_mid] at this
    exact this
theorem own_slice {w : World} {base e sz n : Nat} {v : Value} {xs : List Value} (h : w.ownsRow base e sz v n xs) : ∃ a c, v = .slice a n c := by
  rcases h.2 with ⟨rfl, rfl⟩ | ⟨g, cap, cur, rfl, _⟩
  · exact ⟨_, _, rfl⟩
  · exact ⟨_, _, rfl⟩
theorem own_below {w w' : World} {base e sz n : Nat} {v : Value} {xs : List Value} (h : w.ownsRow base e sz v n xs) (hb : Below w.heap.size w w') : w'.ownsRow base e sz v n xs :=
  World.ownsRow.kept h (row := none) ⟨hb.os, hb.tape, hb.output, hb.size, fun k hk _ => hb.block k hk⟩ (by cases hx : v.ownBlock <;> simp)
theorem own_other {w : World} {q base j e sz n : Nat} {v u : Value} {xs : List Value} (h : w.ownsRow base e sz v n xs) (hq : v.ownBlock ≠ some q) : (w.setCell ⟨q, j, none⟩ u).ownsRow base e sz v n xs := by
  refine ⟨h.1, ?_⟩
  rcases h.2 with hn | ⟨g, cap, cur, rfl, hbg, hg, rest⟩
  · exact .inl hn
  · refine .inr ⟨g, cap, cur, rfl, hbg, ?_, rest⟩
    rw [Below.heap_setCell _ _ _ _ (fun e => hq (by simp [Value.ownBlock]; exact e))]
    exact hg
theorem own_put {w : World} {base g n cap r e sz : Nat} {F : List Value} (h : w.ownsRow base e sz (.slice (some ⟨g, 0, none⟩) n cap) n F) (x : Value) (hr : r < F.length) : (w.setCell ⟨g, r, none⟩ x).ownsRow base e sz (.slice (some ⟨g, 0, none⟩) n cap) n (F.set r x) := by
  rcases h.2 with ⟨e, _⟩ | ⟨g', cap', cur, ev, hbg, hg, hnc, hcm, hcs, htake⟩
  · cases e
  · cases ev
    refine ⟨by rw [List.length_set]; exact h.1, .inr ⟨g, cap, _, rfl, hbg, heap_setCell_same w g r _ e _ hg, hnc, hcm, by simpa using hcs, ?_⟩⟩
    rw [Array.toList_setIfInBounds, List.take_set, htake]
theorem run_app3 {P : Program} (w : World) (base : Nat) (t ty e : TypeId) (i : TypeInfo) (z : Value) (size bytes : Nat) (ht : P.underlying t = some (.slice e)) (hi : P.info? e = some i) (hz : i.zero = some z)
    (hsize : i.size = size) (hby : i.bytes = bytes) (hzs : z.cells.size = size) (hsz : 0 < size) (v : Value) (n : Nat) (xs : List Value) (hown : w.ownsRow base e size v n xs)
    (ad : Addr) (c : Nat) (news : List Value) (hl : news.length = 1 * size) (hnews : ∀ j u, news[j]? = some u → w.cell? (ad.add j) = some u) (h1 : ∀ u ∈ news, u.oneCell' = true)
    (h63 : n + 1 ≤ maxLen) (hbytes : (n + 1) * bytes ≤ 140737488355328) (hbase : base ≤ w.heap.size) :
    ∃ v' w', (Builtin.append_ #[t, t] ty #[v, .slice (some ad) 1 c]).run P w = .ok v' w' ∧ w'.ownsRow base e size v' (n + 1) (xs ++ news) ∧ w.grownBy w' v.ownBlock ∧
      (v'.ownBlock = v.ownBlock ∨ v'.ownBlock = some w.heap.size ∧ Below w.heap.size w w') := by
  obtain ⟨v', w', hr, own, gr, _, hblk⟩ := run_append_own_at (P := P) w base t ty e i z size bytes ht hi hz hsize hby hzs hsz v n xs hown ad 1 c news hl hnews h1 h63 hbytes hbase
  refine ⟨v', w', hr, own, gr, ?_⟩
  rcases hblk with e1 | e1
  · exact .inl e1
  · refine .inr ⟨e1, ?_⟩
    cases hv : v.ownBlock with
    | none => exact (Below.refl _ _).grown gr (Nat.le_refl _) (fun k hk => by rw [hv] at hk; cases hk)
    | some g =>
      rcases hown.2 with ⟨rfl, hn⟩ | ⟨g', cap, cur, rfl, hbg, hg, hnc, hcm, hcs, htake⟩
      · simp [Value.ownBlock] at hv
      · have hg' : g' < w.heap.size := (Array.getElem?_eq_some_iff.1 hg).1
        subst hsize hby
        by_cases hroom : n + 1 ≤ cap
        · have hr2 := run_append_room (P := P) w t ty e i ht hi g' n cap cur hg ad 1 c news (by rw [hl]) hnews h1 hroom (by rw [hl, hcs, ← Nat.add_mul]; exact Nat.mul_le_mul_right _ hroom)
          rw [hr] at hr2
          injection hr2 with e2 e3
          rw [e2] at e1
          simp [Value.ownBlock] at e1
          omega
        · have hr2 := run_append_grow (P := P) w t ty e i z ht hi hz ⟨g', 0, none⟩ n cap xs (by rw [hown.1]) (hown.cells (g := g') rfl) ad 1 c news (by rw [hl]) hnews (by omega) (by unfold maxLen at h63; omega) (growslice_fits (by omega) (by simpa using hbytes))
          rw [hr] at hr2
          injection hr2 with e2 e3
          rw [e3]
          exact (below_drewN (Below.refl _ _) 1).alloc (Nat.le_refl _) _
theorem grow_step {wa w' : World} {base W n cap m e sz : Nat} {a : Option Addr} {x : List Value} {g g' : Value} (hW : W ≤ wa.heap.size) (hx : 0 < x.length)
    (hB : RdC wa a n x) (hv : ∀ b off, 0 < n → a = some ⟨b, off, none⟩ → (Value.slice a n cap).ownBlock = some b ∧ off = 0 ∧ b < W)
    (own' : w'.ownsRow base e sz g' (n + m + 1) (rpC (n + m + 1) x)) (gr : wa.grownBy w' g.ownBlock)
    (h4 : g'.ownBlock = g.ownBlock ∨ g'.ownBlock = some wa.heap.size ∧ Below wa.heap.size wa w')
    (hg : g.ownBlock = (Value.slice a n cap).ownBlock ∨ ∃ b, g.ownBlock = some b ∧ W ≤ b) :
    RdC w' a n x ∧ (g'.ownBlock = (Value.slice a n cap).ownBlock ∨ ∃ b, g'.ownBlock = some b ∧ W ≤ b) := by
  refine ⟨?_, ?_⟩
  · rcases hB with h0 | ⟨b, off, rfl, hc⟩
    · exact .inl h0
    by_cases hn : 0 < n
    · obtain ⟨hvb, rfl, hbW⟩ := hv b off hn rfl
      rcases hg with e1 | ⟨b2, e1, hb2⟩
      · rcases h4 with e4 | ⟨e4, bl⟩
        · have eo : g'.ownBlock = some b := by rw [e4, e1, hvb]
          refine .inr ⟨b, 0, rfl, fun j u hj => ?_⟩
          have hjl : j < n * x.length := by
            have := (List.getElem?_eq_some_iff.1 hj).1
            rwa [rpC_len] at this
          have hj2 : (rpC (n + m + 1) x)[j]? = some u := by rw [Nat.add_assoc, rpC_pre n (m + 1) x hjl]; exact hj
          have := World.ownsRow.cells own' eo j u hj2
          rw [Addr.add_mid] at this
          exact this
        · exact .inr ⟨b, 0, rfl, fun j u hj => (bl.cell (p := ⟨b, 0 + j, none⟩) (block_lt_of_cell (hc j u hj))).trans (hc j u hj)⟩
      · exact .inr ⟨b, 0, rfl, fun j u hj => gr.cell (hc j u hj) (fun e3 => by rw [e1] at e3; simp at e3; omega)⟩
    · left; omega
  · rcases h4 with e4 | ⟨e4, _⟩
    · rw [e4]; exact hg
    · exact .inr ⟨_, e4, hW⟩
structure Lst where
  a : Option Addr
  n : Nat
  c : Nat
def Lst.v (l : Lst) : Value := .slice l.a l.n l.c
structure BookAt (w : World) (q fi B cB N : Nat) (qo : Option Obj) (V : Nat → Lst) : Prop where
  cq : w.cell? ⟨q, fi, none⟩ = some (.slice (some ⟨B, 0, none⟩) N cB)
  cr : ∀ i, i < N → w.cell? ⟨B, i, none⟩ = some (V i).v
  ho : w.heap[q]? = qo
  lB : B < w.heap.size
theorem BookAt.keep {w w' : World} {q fi B cB N : Nat} {qo : Option Obj} {V : Nat → Lst} (h : BookAt w q fi B cB N qo V) (hq : w'.heap[q]? = w.heap[q]?) (hB : w'.heap[B]? = w.heap[B]?) (hs : w.heap.size ≤ w'.heap.size) : BookAt w' q fi B cB N qo V :=
  ⟨(World.cell?_of_block hq).trans h.cq, fun i hi => (World.cell?_of_block hB).trans (h.cr i hi), hq.trans h.ho, Nat.lt_of_lt_of_le h.lB hs⟩
theorem BookAt.lq {w : World} {q fi B cB N : Nat} {qo : Option Obj} {V : Nat → Lst} (h : BookAt w q fi B cB N qo V) : q < w.heap.size := block_lt_of_cell h.cq
def Tg (tg : Nat → Nat) (v : Value) (t : Nat) : Prop := ∀ b, v.ownBlock = some b → tg b = t
structure Ph1 (w0 w : World) (base q fi B cB N e sz : Nat) (qo : Option Obj) (V : Nat → Lst) (tg : Nat → Nat) (F : Nat → List Value) : Prop where
  bk : BookAt w q fi B cB N qo V
  tq : tg q = 0
  tB : tg B = 0
  ow : ∀ i, i < N → w.ownsRow base e sz (V i).v (V i).n (F i) ∧ Tg tg (V i).v (i + 1)
  be : Below base w0 w
  fr : ∀ k, k < w0.heap.size → tg k = 0 → w.heap[k]? = w0.heap[k]?
def upF (F : Nat → List Value) (m : Nat) (l : List Value) : Nat → List Value := fun i => if i = m then l else F i
theorem upF_at (F : Nat → List Value) (m : Nat) (l : List Value) : upF F m l m = l := by unfold upF; rw [if_pos rfl]
theorem upF_up (F : Nat → List Value) (m : Nat) (l l' : List Value) : upF (upF F m l) m l' = upF F m l' := by
  funext i
  unfold upF
  split <;> rfl
theorem Ph1.set {w0 w : World} {base q fi B cB N e sz : Nat} {qo : Option Obj} {V : Nat → Lst} {tg : Nat → Nat} {F : Nat → List Value} (h : Ph1 w0 w base q fi B cB N e sz qo V tg F) (m r g : Nat) (x : Value) (hm : m < N) (hr : r < (F m).length) (hg : (V m).a = some ⟨g, 0, none⟩) (hbg : base ≤ g) :
    Ph1 w0 (w.setCell ⟨g, r, none⟩ x) base q fi B cB N e sz qo V tg (upF F m ((F m).set r x)) := by
  have hv : (V m).v = .slice (some ⟨g, 0, none⟩) (V m).n (V m).c := by unfold Lst.v; rw [hg]
  have tm : tg g = m + 1 := (h.ow m hm).2 g (by rw [hv]; rfl)
  have ne : ∀ b, tg b ≠ m + 1 → b ≠ g := fun b hb e => hb (by rw [e]; exact tm)
  have hset : ∀ b, b ≠ g → (w.setCell ⟨g, r, none⟩ x).heap[b]? = w.heap[b]? := fun b hb => Below.heap_setCell _ _ _ _ hb
  refine ⟨h.bk.keep (hset q (ne q (by rw [h.tq]; omega))) (hset B (ne B (by rw [h.tB]; omega))) (by simp [World.setCell]), h.tq, h.tB, fun i hi => ?_, h.be.setCell hbg _, fun k hk ht => (hset k (ne k (by rw [ht]; omega))).trans (h.fr k hk ht)⟩
  obtain ⟨o, t⟩ := h.ow i hi
  unfold upF
  by_cases e : i = m
  · subst e
    rw [if_pos rfl]
    refine ⟨?_, t⟩
    rw [hv] at o ⊢
    exact own_put o x hr
  · rw [if_neg e]
    exact ⟨own_other o (fun e2 => by have := t g e2; omega), t⟩
structure Ph2 (w0 w : World) (base q fi B cB N e sz te : Nat) (qo : Option Obj) (V : Nat → Lst) (X : Nat → List Value) (tz tg : Nat → Nat) (lo m : Nat) (G : Nat → Value) (all : Value) : Prop where
  bk : BookAt w q fi B cB N qo V
  tq : tg q = 0
  tB : tg B = 0
  rd : ∀ i, i < N → RdC w (V i).a (V i).n (X i) ∧ Tg tg (V i).v (i + 1) ∧ ∀ b, (V i).v.ownBlock = some b → b < w.heap.size
  ow : ∀ i, lo ≤ i → i < N → w.ownsRow base e sz (V i).v (V i).n (rpC (V i).n (X i))
  gs : ∀ i, i < m → w.ownsRow base e sz (G i) ((V i).n + 20) (rpC ((V i).n + 20) (X i)) ∧ Tg tg (G i) (i + 1)
  al : w.ownsRow base te 1 all m ((List.range m).map G) ∧ Tg tg all (N + 1)
  be : Below base w0 w
  zb : base ≤ w.heap.size
  z0 : w0.heap.size ≤ w.heap.size
  fr : ∀ k, k < w0.heap.size → tz k = 0 → tg k = 0 ∧ w.heap[k]? = w0.heap[k]?
def tgN (tg : Nat → Nat) (z t : Nat) : Nat → Nat := fun b => if b < z then tg b else t
section
variable {w0 w w' : World} {base q fi B cB N e sz te : Nat} {qo : Option Obj} {V : Nat → Lst} {X : Nat → List Value} {tz tg : Nat → Nat} {lo m : Nat} {G : Nat → Value} {all : Value}
theorem Ph2.below (h : Ph2 w0 w base q fi B cB N e sz te qo V X tz tg lo m G all) (hb : Below w.heap.size w w') : Ph2 w0 w' base q fi B cB N e sz te qo V X tz tg lo m G all :=
  ⟨h.bk.keep (hb.block q h.bk.lq) (hb.block B h.bk.lB) hb.size, h.tq, h.tB, fun i hi => ⟨(h.rd i hi).1.below hb, (h.rd i hi).2.1, fun b e => Nat.lt_of_lt_of_le ((h.rd i hi).2.2 b e) hb.size⟩,
    fun i h1 h2 => own_below (h.ow i h1 h2) hb, fun i hi => ⟨own_below (h.gs i hi).1 hb, (h.gs i hi).2⟩, ⟨own_below h.al.1 hb, h.al.2⟩, h.be.trans (hb.mono h.zb), Nat.le_trans h.zb hb.size, Nat.le_trans h.z0 hb.size, fun k hk ht => ⟨(h.fr k hk ht).1, (hb.block k (Nat.lt_of_lt_of_le hk h.z0)).trans (h.fr k hk ht).2⟩⟩
theorem Tg.new {v : Value} {t : Nat} (z t' : Nat) (h : Tg tg v t) (hl : ∀ b, v.ownBlock = some b → b < z) : Tg (tgN tg z t') v t := fun b e => by
  unfold tgN
  rw [if_pos (hl b e)]
  exact h b e
theorem Ph2.grow (h : Ph2 w0 w base q fi B cB N e sz te qo V X tz tg lo m G all) (t : Nat) (v v' : Value) (h1 : 1 ≤ t) (gr : w.grownBy w' v.ownBlock) (ht : Tg tg v t) (hv : ∀ b, v.ownBlock = some b → base ≤ b ∧ b < w.heap.size) (hblk : v'.ownBlock = v.ownBlock ∨ v'.ownBlock = some w.heap.size)
    (hrd : ∀ i, i + 1 = t → i < N → RdC w' (V i).a (V i).n (X i)) (how : ∀ i, lo ≤ i → i < N → i + 1 ≠ t) (hgs : ∀ i, i < m → i + 1 ≠ t) (hal : N + 1 ≠ t) : Ph2 w0 w' base q fi B cB N e sz te qo V X tz (tgN tg w.heap.size t) lo m G all ∧ Tg (tgN tg w.heap.size t) v' t := by
  have ne : ∀ b, tg b ≠ t → some b ≠ v.ownBlock := fun b hb e => hb (ht b e.symm)
  have kp : ∀ {e : TypeId} {sz n : Nat} {u : Value} {xs : List Value} {s : Nat}, w.ownsRow base e sz u n xs → Tg tg u s → s ≠ t → w'.ownsRow base e sz u n xs := fun {e sz n u xs s} o tu hs => World.ownsRow.kept o gr (by
    cases hx : u.ownBlock with
    | none => exact .inl rfl
    | some b => exact .inr (fun e => by have := tu b hx; have := ht b e.symm; omega))
  have lt : ∀ {e : TypeId} {sz n : Nat} {u : Value} {xs : List Value}, w.ownsRow base e sz u n xs → ∀ b, u.ownBlock = some b → b < w.heap.size := fun o b e => (World.ownsRow.lt o b e).2
  refine ⟨⟨h.bk.keep (gr.block q h.bk.lq (ne q (by rw [h.tq]; omega))) (gr.block B h.bk.lB (ne B (by rw [h.tB]; omega))) gr.size, ?_, ?_, fun i hi => ?_, fun i h1 h2 => kp (h.ow i h1 h2) (h.rd i h2).2.1 (how i h1 h2), fun i hi => ⟨kp (h.gs i hi).1 (h.gs i hi).2 (hgs i hi), (h.gs i hi).2.new _ _ (lt (h.gs i hi).1)⟩, ⟨kp h.al.1 h.al.2 hal, h.al.2.new _ _ (lt h.al.1)⟩, h.be.grown gr h.zb (fun b e => (hv b e).1), Nat.le_trans h.zb gr.size, Nat.le_trans h.z0 gr.size, fun k hk ht0 => (by
    have hkz := Nat.lt_of_lt_of_le hk h.z0
    obtain ⟨f1, f2⟩ := h.fr k hk ht0
    refine ⟨?_, (gr.block k hkz (ne k (by rw [f1]; omega))).trans f2⟩
    unfold tgN
    rw [if_pos hkz]
    exact f1)⟩, fun b e => ?_⟩
  · unfold tgN; rw [if_pos h.bk.lq]; exact h.tq
  · unfold tgN; rw [if_pos h.bk.lB]; exact h.tB
  · obtain ⟨r1, r2, r3⟩ := h.rd i hi
    refine ⟨?_, r2.new _ _ r3, fun b e => Nat.lt_of_lt_of_le (r3 b e) gr.size⟩
    by_cases e : i + 1 = t
    · exact hrd i e hi
    · exact r1.grown gr (fun _ b off ea e2 => by
        have : (V i).v.ownBlock = some b := by unfold Lst.v; rw [ea]; rfl
        have := r2 b this
        have := ht b e2.symm
        omega)
  · unfold tgN
    rcases hblk with e2 | e2
    · rw [e2] at e
      rw [if_pos (hv b e).2]
      exact ht b e
    · rw [e2] at e
      cases e
      rw [if_neg (by omega)]
theorem Ph2.done (h : Ph2 w0 w base q fi B cB N e sz te qo V X tz tg (m + 1) m G all) (hm : m < N) (g all' : Value) (og : w.ownsRow base e sz g ((V m).n + 20) (rpC ((V m).n + 20) (X m))) (hg : Tg tg g (m + 1)) (gr : w.grownBy w' all.ownBlock) (hblk : all'.ownBlock = all.ownBlock ∨ all'.ownBlock = some w.heap.size)
    (rows : w'.ownsRow base te 1 all' (m + 1) ((List.range m).map G ++ [g])) : ∃ tg', Ph2 w0 w' base q fi B cB N e sz te qo V X tz tg' (m + 1) (m + 1) (fun i => if i = m then g else G i) all' := by
  have ht := h.al.2
  have hv : ∀ b, all.ownBlock = some b → base ≤ b ∧ b < w.heap.size := fun b e => World.ownsRow.lt h.al.1 b e
  have ne : ∀ b, tg b ≠ N + 1 → some b ≠ all.ownBlock := fun b hb e => hb (ht b e.symm)
  have kp : ∀ {e : TypeId} {sz n : Nat} {u : Value} {xs : List Value} {s : Nat}, w.ownsRow base e sz u n xs → Tg tg u s → s ≠ N + 1 → w'.ownsRow base e sz u n xs := fun {e sz n u xs s} o tu hs => World.ownsRow.kept o gr (by
    cases hx : u.ownBlock with
    | none => exact .inl rfl
    | some b => exact .inr (fun e => by have := tu b hx; have := ht b e.symm; omega))
  have lt : ∀ {e : TypeId} {sz n : Nat} {u : Value} {xs : List Value}, w.ownsRow base e sz u n xs → ∀ b, u.ownBlock = some b → b < w.heap.size := fun o b e => (World.ownsRow.lt o b e).2
  refine ⟨tgN tg w.heap.size (N + 1), ⟨h.bk.keep (gr.block q h.bk.lq (ne q (by rw [h.tq]; omega))) (gr.block B h.bk.lB (ne B (by rw [h.tB]; omega))) gr.size, ?_, ?_, fun i hi => ?_, fun i h1 h2 => kp (h.ow i h1 h2) (h.rd i h2).2.1 (by omega), fun i hi => ?_, ⟨?_, fun b e => ?_⟩, h.be.grown gr h.zb (fun b e => (hv b e).1), Nat.le_trans h.zb gr.size, Nat.le_trans h.z0 gr.size, fun k hk ht0 => (by
    have hkz := Nat.lt_of_lt_of_le hk h.z0
    obtain ⟨f1, f2⟩ := h.fr k hk ht0
    refine ⟨?_, (gr.block k hkz (ne k (by rw [f1]; omega))).trans f2⟩
    unfold tgN
    rw [if_pos hkz]
    exact f1)⟩⟩
  · unfold tgN; rw [if_pos h.bk.lq]; exact h.tq
  · unfold tgN; rw [if_pos h.bk.lB]; exact h.tB
  · obtain ⟨r1, r2, r3⟩ := h.rd i hi
    refine ⟨r1.grown gr (fun _ b off ea e2 => ?_), r2.new _ _ r3, fun b e => Nat.lt_of_lt_of_le (r3 b e) gr.size⟩
    have : (V i).v.ownBlock = some b := by unfold Lst.v; rw [ea]; rfl
    have := r2 b this
    have := ht b e2.symm
    omega
  · show w'.ownsRow base e sz (if i = m then g else G i) _ _ ∧ Tg _ (if i = m then g else G i) _
    by_cases e : i = m
    · subst e
      rw [if_pos rfl]
      exact ⟨kp og hg (by omega), hg.new _ _ (lt og)⟩
    · rw [if_neg e]
      have hi2 : i < m := by omega
      exact ⟨kp (h.gs i hi2).1 (h.gs i hi2).2 (by omega), (h.gs i hi2).2.new _ _ (lt (h.gs i hi2).1)⟩
  · have : (List.range (m + 1)).map (fun i => if i = m then g else G i) = (List.range m).map G ++ [g] := by
      rw [List.range_succ, List.map_append]
      congr 1
      · apply List.map_congr_left
        intro i hi
        rw [if_neg (by have := List.mem_range.1 hi; omega)]
      · simp
    rw [this]
    exact rows
  · unfold tgN
    rcases hblk with e2 | e2
    · rw [e2] at e
      rw [if_pos (hv b e).2]
      exact ht b e
    · rw [e2] at e
      cases e
      rw [if_neg (by omega)]
theorem Ph2.weak (h : Ph2 w0 w base q fi B cB N e sz te qo V X tz tg lo m G all) (lo' : Nat) (hl : lo ≤ lo') : Ph2 w0 w base q fi B cB N e sz te qo V X tz tg lo' m G all :=
  ⟨h.bk, h.tq, h.tB, h.rd, fun i h1 h2 => h.ow i (by omega) h2, h.gs, h.al, h.be, h.zb, h.z0, h.fr⟩
def mF (V : Nat → Lst) (X L : Nat → List Value) (m : Nat) : Nat → List Value := fun i => if i < m then rpC (V i).n (X i) else L i
theorem mF_start (V : Nat → Lst) (X L : Nat → List Value) (m : Nat) : upF (mF V X L m) m (fillC 0 (X m) (L m)) = mF V X L m := by
  funext i
  unfold upF mF
  by_cases e : i = m
  · subst e; rw [if_pos rfl, fillC_zero, if_neg (by omega)]
  · rw [if_neg e]
theorem mF_end (V : Nat → Lst) (X L : Nat → List Value) (m : Nat) (h : (L m).length = (V m).n * (X m).length) : upF (mF V X L m) m (fillC (V m).n (X m) (L m)) = mF V X L (m + 1) := by
  funext i
  unfold upF mF
  by_cases e : i = m
  · subst e; rw [if_pos rfl, fillC_all h, if_pos (by omega)]
  · rw [if_neg e]
    by_cases e2 : i < m
    · rw [if_pos e2, if_pos (by omega)]
    · rw [if_neg e2, if_neg (by omega)]
theorem ph2_start {L : Nat → List Value} (h : Ph1 w0 w base q fi B cB N e sz qo V tg (mF V X L N)) (hb : base ≤ w.heap.size) (hz0 : w0.heap.size ≤ w.heap.size) : Ph2 w0 w base q fi B cB N e sz te qo V X tg tg 0 0 (fun _ => .slice none 0 0) (.slice none 0 0) := by
  have key : ∀ i, i < N → w.ownsRow base e sz (V i).v (V i).n (rpC (V i).n (X i)) := fun i hi => by
    have := (h.ow i hi).1
    unfold mF at this
    rwa [if_pos hi] at this
  exact ⟨h.bk, h.tq, h.tB, fun i hi => ⟨own_rd (key i hi), (h.ow i hi).2, fun b e => (World.ownsRow.lt (key i hi) b e).2⟩, fun i _ hi => key i hi, fun i hi => by omega, ⟨World.ownsRow_nil _ _ _ _, fun b e => by cases e⟩, h.be, hb, hz0, fun k hk ht => ⟨ht, h.fr k hk ht⟩⟩
def Gr (w : World) (base e sz W : Nat) (tg : Nat → Nat) (x : List Value) (m n0 k0 k : Nat) (a0 : Option Addr) (g : Value) : Prop :=
  w.ownsRow base e sz g (n0 + k) (rpC (n0 + k) x) ∧ Tg tg g (m + 1) ∧ (g.ownBlock = (Value.slice a0 n0 k0).ownBlock ∨ ∃ b, g.ownBlock = some b ∧ W ≤ b) ∧ W ≤ w.heap.size
noncomputable def tgOf (N : Nat) (V : Nat → Lst) (b : Nat) : Nat := @dite _ (∃ i, i < N ∧ (V i).v.ownBlock = some b) (Classical.propDecidable _) (fun h => Classical.choose h + 1) (fun _ => 0)
theorem tgOf_own (sep : ∀ i j, i < N → j < N → ∀ b, (V i).v.ownBlock = some b → (V j).v.ownBlock = some b → i = j) (i : Nat) (hi : i < N) : Tg (tgOf N V) (V i).v (i + 1) := fun b e => by
  have hx : ∃ i, i < N ∧ (V i).v.ownBlock = some b := ⟨i, hi, e⟩
  unfold tgOf
  rw [dif_pos hx]
  have hs := Classical.choose_spec hx
  rw [sep _ i hs.1 hi b hs.2 e]
theorem tgOf_no (b : Nat) (h : ∀ i, i < N → (V i).v.ownBlock ≠ some b) : tgOf N V b = 0 := by
  unfold tgOf
  rw [dif_neg]
  rintro ⟨i, hi, e⟩
  exact h i hi e
end
end Go.Proofs.Ytlejbdepoemcjaa.B
namespace Go.Proofs.Ytlejbdepoemcjaa
open Go.RowKit
set_option linter.unusedVariables false
set_option linter.unusedSimpArgs false
theorem load_id_at {w : World} {b o : Nat} {k : IdK} (hk : k.ok) (h : w.rangeAt b o k.c) : (Instr.loadAt 32 (.pointer (some ⟨b, o, none⟩))).run Try.prog w = .ok k.v w :=
  run_loadAt_mid (P := Try.prog) w b o 32 k.c _ h Try.underlying32 rfl (by rw [IdK.len hk]; exact szId)
theorem same_ids (a b : Option Addr) (ca cb : Nat) (A B : List IdK) (w : World) (hA : IdsAt w a A) (hB : IdsAt w b B) (oA : ∀ x ∈ A, x.ok) (oB : ∀ x ∈ B, x.ok) (lA : A.length ≤ 7000000000000) :
    Calls Try.prog 44 #[.slice a A.length ca, .slice b B.length cb] w fun e w' => e = .returned (.bool (decide (A = B))) ∧ Below w.heap.size w w' := by
  obtain ⟨n, hn⟩ : ∃ n, A.length = n := ⟨_, rfl⟩
  obtain ⟨m, hm⟩ : ∃ m, B.length = m := ⟨_, rfl⟩
  have HN := hidMk hn
  have HM := hidMk hm
  have HLA := hidMk lA
  rw [hn, hm]
  by_cases hnm : n = m
  · subst hnm
    clear hn hm lA
    go_enter Try.func44, Try.ntmps44
    go_wp2
    go_loopw [5] (fun v5 wr => ∃ i : Nat, v5 = .int .i64 (i : Int) ∧ i ≤ n ∧ A.take i = B.take i ∧ Below w.heap.size w wr) (fun v5 wr => n - (match v5 with | .int _ i => i.toNat | _ => 0))
    case atStart => exact ⟨0, rfl, Nat.zero_le _, rfl, Below.refl _ _⟩
    case round =>
      obtain ⟨i, rfl, hin, htk, bel⟩ := hrel
      have hLn := HN.out
      have hLm := HM.out
      by_cases hi : i < n
      · have hxi : A[i]? = some A[i] := List.getElem?_eq_getElem (by omega)
        have hyi : B[i]? = some B[i] := List.getElem?_eq_getElem (by omega)
        generalize A[i] = x at hxi
        generalize B[i] = y at hyi
        have hxo : x.ok := oA x (List.mem_of_getElem? hxi)
        have hyo : y.ok := oB y (List.mem_of_getElem? hyi)
        obtain ⟨b1, o1, rfl, lb1, r1⟩ : ∃ b1 o1, a = some ⟨b1, o1, none⟩ ∧ b1 < w.heap.size ∧ w.rangeAt b1 (o1 + i * 33) x.c := by
          rcases hA with rfl | ⟨b1, o1, e, h1, h2⟩
          · simp at hxi
          · exact ⟨b1, o1, e, h1, by rw [Nat.mul_comm]; exact h2 i x hxi⟩
        obtain ⟨b2, o2, rfl, lb2, r2⟩ : ∃ b1 o1, b = some ⟨b1, o1, none⟩ ∧ b1 < w.heap.size ∧ w.rangeAt b1 (o1 + i * 33) y.c := by
          rcases hB with rfl | ⟨b1, o1, e, h1, h2⟩
          · simp at hyi
          · exact ⟨b1, o1, e, h1, by rw [Nat.mul_comm]; exact h2 i y hyi⟩
        have bel' : Below w.heap.size w wr.drew := bel.drew
        have L1 := hidMk (load_id_at hxo (rangeAt_keep r1 (bel'.block _ lb1)))
        have L2 := hidMk (load_id_at hyo (rangeAt_keep r2 (bel'.block _ lb2)))
        have HT := hidMk htk
        have HX := hidMk (And.intro hxi hyi)
        clear htk hxi hyi r1 r2 hLn hLm
        go_upto_region 6 with fail
        refine wp_region_still_tail 8 (by kernel_rfl) (by kernel_rfl) ?_
        simp only [List.take_succ_cons, List.take_zero, List.drop_succ_cons, List.drop_zero]
        change wpStill _ _ wr.drew (fun a' => wpList _ _ _ _ a' wr.drew) _ _
        generalize wr.drew = wd at *
        iterate 3 still_step
        refine still_val rfl (exec_load (t := 32) (u := .pointer (some ⟨b1, o1 + i * 33, none⟩)) rfl rfl L1.out) ?_
        simp only [Act.put, List.setIfInBounds_toArray, List.set_cons_zero, List.set_cons_succ]
        iterate 3 still_step
        refine still_val rfl (exec_load (t := 32) (u := .pointer (some ⟨b2, o2 + i * 33, none⟩)) rfl rfl L2.out) ?_
        simp only [Act.put, List.setIfInBounds_toArray, List.set_cons_zero, List.set_cons_succ]
        refine wpStill_nil ?_
        refine wpList_val rfl (exec_binOp (xv := x.v) (yv := y.v) rfl rfl rfl (guard_id _ _ x y _ _) (neq_id x y hxo hyo _)) ?_
        simp only [Act.put, List.setIfInBounds_toArray, List.set_cons_zero, List.set_cons_succ]
        by_cases hxy : x = y
        · subst hxy
          simp only [decide_true, Bool.not_true]
          go_wp2
          have hwr : Go.RowKit.wrap64 ((i : Int) + 1) = ((i + 1 : Nat) : Int) := by
            have := HLA.out
            have := HN.out
            unfold Go.RowKit.wrap64
            omega
          rw [hwr]
          refine ⟨⟨i + 1, rfl, hi, ?_, bel'⟩, ?_⟩
          · rw [List.take_add_one, List.take_add_one, HX.out.1, HX.out.2, HT.out]
          · show n - ((i + 1 : Nat) : Int).toNat < n - (i : Int).toNat
            omega
        · have hd : decide (x = y) = false := by simpa using hxy
          rw [hd]
          simp only [Bool.not_false]
          go_wp2
          go_ret
          refine ⟨?_, bel'⟩
          have : A ≠ B := fun e => by
            rw [e] at HX
            exact hxy (Option.some.inj (HX.out.1.symm.trans HX.out.2))
          simp [this]
      · obtain rfl : i = n := by omega
        have hAB : A = B := by rw [List.take_of_length_le (by omega), List.take_of_length_le (by omega)] at htk; exact htk
        have HAB := hidMk hAB
        clear hAB htk hLn hLm hin
        go_wp2
        go_ret
        exact ⟨by simp [HAB.out], bel⟩
  · have hne : A ≠ B := fun e => hnm (by rw [← hn, ← hm, e])
    have hnm2 : ((n : Int) == (m : Int)) = false := by simp; omega
    have hnm3 : ((n : Int) != (m : Int)) = true := by simp; omega
    have HNE := hidMk hne
    clear hn hm hne hnm
    go_enter Try.func44, Try.ntmps44
    go_wp2
    go_ret
    exact ⟨by simp [HNE.out], Below.refl _ _⟩
theorem OwnI.ge {w : World} {base : Nat} {v : Value} {L : List IdK} (h : OwnI w base v L) : ∀ j, v.ownBlock = some j → base ≤ j ∧ ∃ c, w.heap[j]? = some (.cells c 32 (0, 0)) := by
  intro j hj
  rcases h.2 with ⟨rfl, hn⟩ | ⟨g, cap, cur, rfl, hbg, hg, rest⟩
  · cases hj
  · obtain rfl : g = j := by simpa [Value.ownBlock] using hj
    exact ⟨hbg, _, hg⟩
theorem flatI_cons (x : IdK) (L : List IdK) : flatI (x :: L) = x.c ++ flatI L := rfl
theorem own_set {w : World} {base : Nat} {v : Value} {L : List IdK} (own : OwnI w base v L) (ok : ∀ x ∈ L, x.ok) {i : Nat} (hi : i < L.length) {x : IdK} (hx : x.ok) :
    ∃ g cap, v = .slice (some ⟨g, 0, none⟩) L.length cap ∧ g < w.heap.size ∧ ∃ w', (Instr.storeAt 32 (.pointer (some ⟨g, i * 33, none⟩)) x.v).run Try.prog w = .ok () w' ∧ OwnI w' base v (L.set i x) ∧ Tch (fun j => v.ownBlock = some j) w w' ∧ w'.heap.size = w.heap.size := by
  rcases own.2 with ⟨rfl, hn⟩ | ⟨g, cap, cur, rfl, hbg, hg, hnc, hcm, hcs, htake⟩
  · omega
  · rw [Nat.mul_comm i 33]
    refine ⟨g, cap, rfl, (Array.getElem?_eq_some_iff.1 hg).1, w.setRow g (cur.toList.take (33 * i) ++ x.c ++ cur.toList.drop (33 * i + x.c.length)).toArray, ?_, ?_, setRow_tch w g _, by simp [World.setRow]⟩
    · have hlen := IdK.len hx
      have hb : 33 * i + 33 ≤ cur.size := by rw [hcs]; omega
      have h := run_storeCells_at Try.prog g (33 * i) 32 x.c 0 cur w hg (by rw [hlen]; omega) (fun v hv => x.one v hv)
      rw [Nat.add_zero] at h
      have hs := szId
      cases hq : Try.prog.info? 32 with
      | none => rw [hq] at hs; simp at hs
      | some ii =>
        rw [hq] at hs
        simp at hs
        have hcz : x.c.toArray.size = ii.size := by simp [hlen, hs]
        simp only [Instr.storeAt, Instr.sureAddr, Sem.run_bind, Sem.run_pure, Result.andThen_ok, IdK.v, storeVar, sizeOf, typeInfo, hq, Value.cells]
        simp [typeInfo, hq, hlen, hs, h]
    · have hA : ∃ A y B, L = A ++ y :: B ∧ A.length = i := ⟨L.take i, L[i], L.drop (i + 1), by rw [← List.drop_eq_getElem_cons hi, List.take_append_drop], by simp; omega⟩
      obtain ⟨A, y, B, rfl, hA⟩ := hA
      have okA : ∀ x ∈ A, x.ok := fun x hx => ok x (by simp [hx])
      have okB : ∀ x ∈ B, x.ok := fun x hx => ok x (by simp [hx])
      have oky : y.ok := ok y (by simp)
      have hset : (A ++ y :: B).set i x = A ++ x :: B := by rw [← hA, List.set_append_right _ _ (Nat.le_refl _)]; simp
      rw [hset]
      have hfl : flatI (A ++ x :: B) = flatI A ++ x.c ++ flatI B := by rw [flatI_app, flatI_cons]; simp
      have hfl' : flatI (A ++ y :: B) = flatI A ++ y.c ++ flatI B := by rw [flatI_app, flatI_cons]; simp
      rw [hfl'] at htake
      have hlA := flatI_len okA
      have hlB := flatI_len okB
      have l1 := IdK.len oky
      have l2 := IdK.len hx
      have hlenx : (A ++ x :: B).length = (A ++ y :: B).length := by simp
      refine ⟨?_, Or.inr ⟨g, cap, _, by rw [hlenx], hbg, setRow_heap w g cur _ 32 (0, 0) hg, by rw [hlenx]; exact hnc, hcm, ?_, ?_⟩⟩
      · rw [hfl]; simp only [List.length_append, List.length_cons]; omega
      · rw [← hcs]
        simp only [List.length_append, List.length_cons] at hnc
        have : cur.toList.length = cur.size := by simp
        simp only [List.size_toArray, List.length_append, List.length_take, List.length_drop]
        omega
      · rw [List.toList_toArray, hfl, hlenx]
        refine take_seg htake ?_ (by omega) (by omega)
        simp only [List.length_append, List.length_cons]
        omega
theorem id_newB (w : World) (n : IdK) (hn : n.ok) : ∃ w1, (Instr.alloc 32 true (.tuple #[])).run Try.prog w = .ok (.pointer (some ⟨w.heap.size, 0, none⟩)) w1 ∧ (Instr.storeAt 32 (.pointer (some ⟨w.heap.size, 0, none⟩)) n.v).run Try.prog w1 = .ok () (w.alloc (.cells n.c.toArray 32)) := by
  have e1 : (Instr.alloc 32 true (.tuple #[])).run Try.prog w = .ok (.pointer (some ⟨w.heap.size, 0, none⟩)) (w.alloc (.cells zId.c.toArray 32)) := by
    simp only [Instr.alloc, newVar, newRow, newObj, Sem.run_bind, zeroId, Result.andThen_ok, IdK.v, Value.cells]
    rfl
  have e2 := store_id (w := w.alloc (.cells zId.c.toArray 32)) (b := w.heap.size) zId_ok hn (heap_alloc_new _ _)
  rw [World.setRow_alloc_new] at e2
  exact ⟨_, e1, e2⟩
theorem ix_id {b o n c i : Nat} (h : i < n) (hn : n ≤ 9223372036854775807) (w : World) : (Instr.indexAt 44 (.slice (some ⟨b, o, none⟩) n c) (.int .i64 (i : Int))).run Try.prog w = .ok (.pointer (some ⟨b, o + i * 33, none⟩)) w := by go_simp
theorem build_idn (w : World) (n : Int) : (Instr.build 32 #[(1, .int .i64 n)]).run Try.prog w = .ok (IdK.v ⟨List.replicate 32 0, n⟩) w := by kernel_rfl
theorem exec_bid {w : World} {a : Act} {o : Oper} {x : Operand} (n : Int) (ho : o.op = .build 32 #[(1, x)]) (hx : a.eval x = .int .i64 n) : (execOp a.eval o).run Try.prog w = .ok (.value (IdK.v ⟨List.replicate 32 0, n⟩)) w :=
  exec_build ho (by simp [hx]) (build_idn w n)
theorem fg_73_2 (b o : Nat) (w : World) : (Instr.fieldAt 73 (.pointer (some ⟨b, o, none⟩)) 2).run Try.prog w = .ok (.pointer (some ⟨b, o + 2, none⟩)) w := by go_simp
def al7_o0 : Oper := ⟨some 35, .move (.tmp 0), 110, "lists.go:214", #[], none⟩
def al7_o1 : Oper := ⟨some 36, .nilCheck (.tmp 35), 0, "lists.go:214", #[⟨0, .data⟩], none⟩
def al7_o2 : Oper := ⟨some 37, .fieldAddr 73 (.tmp 36) 2, 0, "lists.go:214", #[⟨1, .data⟩], none⟩
def al7_o3 : Oper := ⟨some 38, .load 56 (.tmp 37), 56, "lists.go:214", #[⟨2, .data⟩], none⟩
def al7_o4 : Oper := ⟨some 39, .move (.tmp 3), 3, "lists.go:214", #[], none⟩
def al7_o5 : Oper := ⟨some 40, .indexAddr 56 (.tmp 38) (.tmp 39), 0, "lists.go:214", #[⟨3, .data⟩, ⟨4, .data⟩], none⟩
def al7_o6 : Oper := ⟨some 41, .load 44 (.tmp 40), 44, "lists.go:214", #[⟨5, .data⟩], none⟩
def al7_o7 : Oper := ⟨some 42, .move (.tmp 4), 3, "lists.go:214", #[], none⟩
def al7_o8 : Oper := ⟨some 43, .move (.tmp 3), 3, "lists.go:214", #[], none⟩
def al7_o9 : Oper := ⟨some 44, .binOp BinOp.sub 3 (Operand.const (Value.int IntKind.i64 (-7))) (.tmp 43) 3, 3, "lists.go:214", #[⟨8, .data⟩], none⟩
def al7_o10 : Oper := ⟨some 45, .build 32 #[(1, .tmp 44)], 32, "lists.go:214", #[⟨9, .data⟩], none⟩
def al7_o11 : Oper := ⟨some 46, .indexAddr 44 (.tmp 41) (.tmp 42), 0, "lists.go:214", #[⟨6, .data⟩, ⟨7, .data⟩, ⟨0, .phase⟩, ⟨1, .phase⟩, ⟨2, .phase⟩, ⟨3, .phase⟩, ⟨4, .phase⟩, ⟨5, .phase⟩, ⟨6, .phase⟩, ⟨7, .phase⟩, ⟨8, .phase⟩, ⟨9, .phase⟩, ⟨10, .phase⟩], none⟩
def al7_o12 : Oper := ⟨none, .store 32 (.tmp 46) (.tmp 45), 0, "lists.go:214", #[⟨11, .data⟩, ⟨10, .data⟩, ⟨0, .phase⟩, ⟨1, .phase⟩, ⟨2, .phase⟩, ⟨3, .phase⟩, ⟨4, .phase⟩, ⟨5, .phase⟩, ⟨6, .phase⟩, ⟨7, .phase⟩, ⟨8, .phase⟩, ⟨9, .phase⟩, ⟨10, .phase⟩], none⟩
def al7_ops : Array Oper := #[al7_o0, al7_o1, al7_o2, al7_o3, al7_o4, al7_o5, al7_o6, al7_o7, al7_o8, al7_o9, al7_o10, al7_o11, al7_o12]
theorem al7 (q : Nat) (iv kv lv pb sv pe : Value) (z : Int) (w2 : World) (a : Act) (w : World) (Q : Exit → Act → World → Prop) (hsz : a.tmps.size = 133)
    (t0 : a.tmps.getD 0 undef = .pointer (some ⟨q, 0, none⟩))
    (t3 : a.tmps.getD 3 undef = iv)
    (t4 : a.tmps.getD 4 undef = kv)
    (ES : (Instr.storeAt 32 pe (IdK.v ⟨List.replicate 32 0, z⟩)).run Try.prog w = .ok () w2)
    (G1 : (Instr.loadAt 56 (.pointer (some ⟨q, 0 + 2, none⟩))).run Try.prog w = .ok (lv) w)
    (G2 : ∀ W, (Instr.indexAt 56 (lv) (iv)).run Try.prog W = .ok (pb) W)
    (G3 : (Instr.loadAt 44 (pb)).run Try.prog w = .ok (sv) w)
    (G4 : ∀ W, (eqGuard BinOp.sub 3 (Operand.const (Value.int IntKind.i64 (-7))) (Operand.tmp 43) (.int .i64 (-7)) (iv)).run Try.prog W = .ok () W)
    (G5 : ∀ W, (binOp BinOp.sub 3 (.int .i64 (-7)) (iv)).run Try.prog W = .ok (.int .i64 z) W)
    (G6 : ∀ W, (Instr.indexAt 44 (sv) (kv)).run Try.prog W = .ok (pe) W)
    (h : ∀ (a' : Act) (w' : World), w' = w2 → a' = ((((((((((((a).put (some 35) (.pointer (some ⟨q, 0, none⟩))).put (some 36) (.pointer (some ⟨q, 0, none⟩))).put (some 37) (.pointer (some ⟨q, 0 + 2, none⟩))).put (some 38) (lv)).put (some 39) (iv)).put (some 40) (pb)).put (some 41) (sv)).put (some 42) (kv)).put (some 43) (iv)).put (some 44) (.int .i64 z)).put (some 45) (IdK.v ⟨List.replicate 32 0, z⟩)).put (some 46) (pe) → Q .normal a' w') :
    (Code.region 7 al7_ops false).wp Try.prog Q a w := by
  refine wp_region_list ?_
  change wpList _ _ _ [al7_o0, al7_o1, al7_o2, al7_o3, al7_o4, al7_o5, al7_o6, al7_o7, al7_o8, al7_o9, al7_o10, al7_o11, al7_o12] _ _
  refine qv (v := .pointer (some ⟨q, 0, none⟩)) (by rfl) (exec_move rfl t0) (fun a0 e0 => ?_)
  rw [← e0] at h
  have z0 := pz e0 hsz
  replace t3 := pk e0 t3
  replace t4 := pk e0 t4
  clear t0
  have t35 := pq e0 hsz
  clear e0 hsz
  refine qv (v := .pointer (some ⟨q, 0, none⟩)) (by rfl) (exec_nilCheck rfl t35) (fun a1 e1 => ?_)
  rw [← e1] at h
  have z1 := pz e1 z0
  replace t3 := pk e1 t3
  replace t4 := pk e1 t4
  clear t35
  have t36 := pq e1 z0
  clear e1 z0
  refine qv (v := .pointer (some ⟨q, 0 + 2, none⟩)) (by rfl) (exec_fieldAt rfl t36 (fg_73_2 _ _ _)) (fun a2 e2 => ?_)
  rw [← e2] at h
  have z2 := pz e2 z1
  replace t3 := pk e2 t3
  replace t4 := pk e2 t4
  clear t36
  have t37 := pq e2 z1
  clear e2 z1
  refine qv (v := lv) (by rfl) (exec_load rfl t37 G1) (fun a3 e3 => ?_)
  rw [← e3] at h
  have z3 := pz e3 z2
  replace t3 := pk e3 t3
  replace t4 := pk e3 t4
  clear t37
  have t38 := pq e3 z2
  clear e3 z2
  refine qv (v := iv) (by rfl) (exec_move rfl t3) (fun a4 e4 => ?_)
  rw [← e4] at h
  have z4 := pz e4 z3
  replace t3 := pk e4 t3
  replace t4 := pk e4 t4
  replace t38 := pk e4 t38
  have t39 := pq e4 z3
  clear e4 z3
  refine qv (v := pb) (by rfl) (exec_indexAt rfl t38 t39 (G2 _)) (fun a5 e5 => ?_)
  rw [← e5] at h
  have z5 := pz e5 z4
  replace t3 := pk e5 t3
  replace t4 := pk e5 t4
  clear t38 t39
  have t40 := pq e5 z4
  clear e5 z4
  refine qv (v := sv) (by rfl) (exec_load rfl t40 G3) (fun a6 e6 => ?_)
  rw [← e6] at h
  have z6 := pz e6 z5
  replace t3 := pk e6 t3
  replace t4 := pk e6 t4
  clear t40
  have t41 := pq e6 z5
  clear e6 z5
  refine qv (v := kv) (by rfl) (exec_move rfl t4) (fun a7 e7 => ?_)
  rw [← e7] at h
  have z7 := pz e7 z6
  replace t3 := pk e7 t3
  replace t41 := pk e7 t41
  clear t4
  have t42 := pq e7 z6
  clear e7 z6
  refine qv (v := iv) (by rfl) (exec_move rfl t3) (fun a8 e8 => ?_)
  rw [← e8] at h
  have z8 := pz e8 z7
  replace t41 := pk e8 t41
  replace t42 := pk e8 t42
  clear t3
  have t43 := pq e8 z7
  clear e8 z7
  refine qv (v := .int .i64 z) (by rfl) (exec_binOp rfl rfl t43 (G4 _) (G5 _)) (fun a9 e9 => ?_)
  rw [← e9] at h
  have z9 := pz e9 z8
  replace t41 := pk e9 t41
  replace t42 := pk e9 t42
  clear t43
  have t44 := pq e9 z8
  clear e9 z8
  refine qv (v := IdK.v ⟨List.replicate 32 0, z⟩) (by rfl) (exec_bid z rfl t44) (fun a10 e10 => ?_)
  rw [← e10] at h
  have z10 := pz e10 z9
  replace t41 := pk e10 t41
  replace t42 := pk e10 t42
  clear t44
  have t45 := pq e10 z9
  clear e10 z9
  refine qv (v := pe) (by rfl) (exec_indexAt rfl t41 t42 (G6 _)) (fun a11 e11 => ?_)
  rw [← e11] at h
  have z11 := pz e11 z10
  replace t45 := pk e11 t45
  clear t41 t42
  have t46 := pq e11 z10
  clear e11 z10
  refine qs (by rfl) (exec_store rfl t46 t45 ES) ?_
  exact wpList_nil (h _ _ (rfl) rfl)
def al16_o0 : Oper := ⟨some 67, .move (.tmp 7), 44, "lists.go:221", #[], none⟩
def al16_o1 : Oper := ⟨some 68, .move (.tmp 6), 3, "lists.go:221", #[], none⟩
def al16_o2 : Oper := ⟨some 69, .binOp BinOp.sub 3 (Operand.const (Value.int IntKind.i64 (-7))) (.tmp 68) 3, 3, "lists.go:221", #[⟨1, .data⟩], none⟩
def al16_o3 : Oper := ⟨some 70, .build 32 #[(1, .tmp 69)], 32, "lists.go:221", #[⟨2, .data⟩], none⟩
def al16_o4 : Oper := ⟨some 71, .buildSlice 44 1 #[(0, .tmp 70)], 44, "lists.go:221", #[⟨3, .data⟩], none⟩
def al16_o5 : Oper := ⟨some 72, .call { callee := Callee.builtin Builtin.append, args := #[.tmp 67, .tmp 71], argTypes := #[44, 44] }, 44, "lists.go:221", #[⟨0, .data⟩, ⟨4, .data⟩], none⟩
def al16_o6 : Oper := ⟨some 7, .assign (.tmp 72), 44, "lists.go:221", #[⟨5, .data⟩, ⟨5, .chain⟩, ⟨0, .phase⟩, ⟨1, .phase⟩, ⟨2, .phase⟩, ⟨3, .phase⟩, ⟨4, .phase⟩, ⟨5, .phase⟩], none⟩
def al16_ops : Array Oper := #[al16_o0, al16_o1, al16_o2, al16_o3, al16_o4, al16_o5, al16_o6]
theorem al16 (gv iv sv rv : Value) (z : Int) (w1 w2 : World) (a : Act) (w : World) (Q : Exit → Act → World → Prop) (hsz : a.tmps.size = 133)
    (t7 : a.tmps.getD 7 undef = gv)
    (t6 : a.tmps.getD 6 undef = iv)
    (EB : (Instr.buildSlice 44 1 #[(0, IdK.v ⟨List.replicate 32 0, z⟩)]).run Try.prog w = .ok sv w1) (EA : (Builtin.append_ #[44, 44] 44 #[gv, sv]).run Try.prog w1 = .ok rv w2)
    (G1 : ∀ W, (eqGuard BinOp.sub 3 (Operand.const (Value.int IntKind.i64 (-7))) (Operand.tmp 68) (.int .i64 (-7)) (iv)).run Try.prog W = .ok () W)
    (G2 : ∀ W, (binOp BinOp.sub 3 (.int .i64 (-7)) (iv)).run Try.prog W = .ok (.int .i64 z) W)
    (h : ∀ (a' : Act) (w' : World), w' = w2 → a' = (((((((a).put (some 67) (gv)).put (some 68) (iv)).put (some 69) (.int .i64 z)).put (some 70) (IdK.v ⟨List.replicate 32 0, z⟩)).put (some 71) (sv)).put (some 72) (rv)).put (some 7) (rv) → Q .normal a' w') :
    (Code.region 16 al16_ops false).wp Try.prog Q a w := by
  refine wp_region_list ?_
  change wpList _ _ _ [al16_o0, al16_o1, al16_o2, al16_o3, al16_o4, al16_o5, al16_o6] _ _
  refine qv (v := gv) (by rfl) (exec_move rfl t7) (fun a0 e0 => ?_)
  rw [← e0] at h
  have z0 := pz e0 hsz
  replace t6 := pk e0 t6
  clear t7
  have t67 := pq e0 hsz
  clear e0 hsz
  refine qv (v := iv) (by rfl) (exec_move rfl t6) (fun a1 e1 => ?_)
  rw [← e1] at h
  have z1 := pz e1 z0
  replace t67 := pk e1 t67
  clear t6
  have t68 := pq e1 z0
  clear e1 z0
  refine qv (v := .int .i64 z) (by rfl) (exec_binOp rfl rfl t68 (G1 _) (G2 _)) (fun a2 e2 => ?_)
  rw [← e2] at h
  have z2 := pz e2 z1
  replace t67 := pk e2 t67
  clear t68
  have t69 := pq e2 z1
  clear e2 z1
  refine qv (v := IdK.v ⟨List.replicate 32 0, z⟩) (by rfl) (exec_bid z rfl t69) (fun a3 e3 => ?_)
  rw [← e3] at h
  have z3 := pz e3 z2
  replace t67 := pk e3 t67
  clear t69
  have t70 := pq e3 z2
  clear e3 z2
  refine qk (v := sv) (by rfl) (exec_buildSlice rfl t70 EB) (fun a4 e4 => ?_)
  rw [← e4] at h
  have z4 := pz e4 z3
  replace t67 := pk e4 t67
  clear t70
  have t71 := pq e4 z3
  clear e4 z3
  refine qk (v := rv) (by rfl) (exec_append rfl t67 t71 EA) (fun a5 e5 => ?_)
  rw [← e5] at h
  have z5 := pz e5 z4
  clear t67 t71
  have t72 := pq e5 z4
  clear e5 z4
  refine qv (v := rv) (by rfl) (exec_assign rfl t72) (fun a6 e6 => ?_)
  rw [← e6] at h
  have z6 := pz e6 z5
  clear t72
  clear e6 z5
  exact wpList_nil (h _ _ (rfl) rfl)
def al17_o0 : Oper := ⟨some 73, .move (.tmp 5), 56, "lists.go:223", #[], none⟩
def al17_o1 : Oper := ⟨some 74, .move (.tmp 7), 44, "lists.go:223", #[], none⟩
def al17_o2 : Oper := ⟨some 75, .buildSlice 56 1 #[(0, .tmp 74)], 56, "lists.go:223", #[⟨1, .data⟩], none⟩
def al17_o3 : Oper := ⟨some 76, .call { callee := Callee.builtin Builtin.append, args := #[.tmp 73, .tmp 75], argTypes := #[56, 56] }, 56, "lists.go:223", #[⟨0, .data⟩, ⟨2, .data⟩], none⟩
def al17_o4 : Oper := ⟨some 5, .assign (.tmp 76), 56, "lists.go:223", #[⟨3, .data⟩, ⟨3, .chain⟩, ⟨0, .phase⟩, ⟨1, .phase⟩, ⟨2, .phase⟩, ⟨3, .phase⟩], none⟩
def al17_ops : Array Oper := #[al17_o0, al17_o1, al17_o2, al17_o3, al17_o4]
theorem al17 (av gv sv rv : Value) (w1 w2 : World) (a : Act) (w : World) (Q : Exit → Act → World → Prop) (hsz : a.tmps.size = 133)
    (t5 : a.tmps.getD 5 undef = av)
    (t7 : a.tmps.getD 7 undef = gv)
    (EB : (Instr.buildSlice 56 1 #[(0, gv)]).run Try.prog w = .ok sv w1) (EA : (Builtin.append_ #[56, 56] 56 #[av, sv]).run Try.prog w1 = .ok rv w2)
    (h : ∀ (a' : Act) (w' : World), w' = w2 → a' = (((((a).put (some 73) (av)).put (some 74) (gv)).put (some 75) (sv)).put (some 76) (rv)).put (some 5) (rv) → Q .normal a' w') :
    (Code.region 17 al17_ops false).wp Try.prog Q a w := by
  refine wp_region_list ?_
  change wpList _ _ _ [al17_o0, al17_o1, al17_o2, al17_o3, al17_o4] _ _
  refine qv (v := av) (by rfl) (exec_move rfl t5) (fun a0 e0 => ?_)
  rw [← e0] at h
  have z0 := pz e0 hsz
  replace t7 := pk e0 t7
  clear t5
  have t73 := pq e0 hsz
  clear e0 hsz
  refine qv (v := gv) (by rfl) (exec_move rfl t7) (fun a1 e1 => ?_)
  rw [← e1] at h
  have z1 := pz e1 z0
  replace t73 := pk e1 t73
  clear t7
  have t74 := pq e1 z0
  clear e1 z0
  refine qk (v := sv) (by rfl) (exec_buildSlice rfl t74 EB) (fun a2 e2 => ?_)
  rw [← e2] at h
  have z2 := pz e2 z1
  replace t73 := pk e2 t73
  clear t74
  have t75 := pq e2 z1
  clear e2 z1
  refine qk (v := rv) (by rfl) (exec_append rfl t73 t75 EA) (fun a3 e3 => ?_)
  rw [← e3] at h
  have z3 := pz e3 z2
  clear t73 t75
  have t76 := pq e3 z2
  clear e3 z2
  refine qv (v := rv) (by rfl) (exec_assign rfl t76) (fun a4 e4 => ?_)
  rw [← e4] at h
  have z4 := pz e4 z3
  clear t76
  clear e4 z3
  exact wpList_nil (h _ _ (rfl) rfl)
def al24_o0 : Oper := ⟨some 92, .move (.tmp 5), 56, "lists.go:227", #[], none⟩
def al24_o1 : Oper := ⟨some 93, .move (.tmp 9), 3, "lists.go:227", #[], none⟩
def al24_o2 : Oper := ⟨some 94, .indexAddr 56 (.tmp 92) (.tmp 93), 0, "lists.go:227", #[⟨0, .data⟩, ⟨1, .data⟩], none⟩
def al24_o3 : Oper := ⟨some 95, .load 44 (.tmp 94), 44, "lists.go:227", #[⟨2, .data⟩], none⟩
def al24_o4 : Oper := ⟨some 96, .move (.tmp 10), 3, "lists.go:227", #[], none⟩
def al24_o5 : Oper := ⟨some 97, .indexAddr 44 (.tmp 95) (.tmp 96), 0, "lists.go:227", #[⟨3, .data⟩, ⟨4, .data⟩], none⟩
def al24_o6 : Oper := ⟨some 98, .load 32 (.tmp 97), 32, "lists.go:227", #[⟨5, .data⟩], none⟩
def al24_o7 : Oper := ⟨some 11, .alloc 32, 0, "lists.go:227", #[], none⟩
def al24_o8 : Oper := ⟨none, .store 32 (.tmp 11) (.tmp 98), 0, "lists.go:227", #[⟨7, .data⟩, ⟨6, .data⟩, ⟨0, .phase⟩, ⟨1, .phase⟩, ⟨2, .phase⟩, ⟨3, .phase⟩, ⟨4, .phase⟩, ⟨5, .phase⟩, ⟨6, .phase⟩, ⟨7, .phase⟩], none⟩
def al24_ops : Array Oper := #[al24_o0, al24_o1, al24_o2, al24_o3, al24_o4, al24_o5, al24_o6, al24_o7, al24_o8]
theorem al24 (av iv kv pb sv pe xv p : Value) (w1 w2 : World) (a : Act) (w : World) (Q : Exit → Act → World → Prop) (hsz : a.tmps.size = 133)
    (t5 : a.tmps.getD 5 undef = av)
    (t9 : a.tmps.getD 9 undef = iv)
    (t10 : a.tmps.getD 10 undef = kv)
    (EA : (Instr.alloc 32 true (.tuple #[])).run Try.prog w = .ok p w1) (ES : (Instr.storeAt 32 p xv).run Try.prog w1 = .ok () w2)
    (G1 : ∀ W, (Instr.indexAt 56 (av) (iv)).run Try.prog W = .ok (pb) W)
    (G2 : (Instr.loadAt 44 (pb)).run Try.prog w = .ok (sv) w)
    (G3 : ∀ W, (Instr.indexAt 44 (sv) (kv)).run Try.prog W = .ok (pe) W)
    (G4 : (Instr.loadAt 32 (pe)).run Try.prog w = .ok (xv) w)
    (h : ∀ (a' : Act) (w' : World), w' = w2 → a' = ((((((((a).put (some 92) (av)).put (some 93) (iv)).put (some 94) (pb)).put (some 95) (sv)).put (some 96) (kv)).put (some 97) (pe)).put (some 98) (xv)).put (some 11) (p) → Q .normal a' w') :
    (Code.region 24 al24_ops false).wp Try.prog Q a w := by
  refine wp_region_list ?_
  change wpList _ _ _ [al24_o0, al24_o1, al24_o2, al24_o3, al24_o4, al24_o5, al24_o6, al24_o7, al24_o8] _ _
  refine qv (v := av) (by rfl) (exec_move rfl t5) (fun a0 e0 => ?_)
  rw [← e0] at h
  have z0 := pz e0 hsz
  replace t9 := pk e0 t9
  replace t10 := pk e0 t10
  clear t5
  have t92 := pq e0 hsz
  clear e0 hsz
  refine qv (v := iv) (by rfl) (exec_move rfl t9) (fun a1 e1 => ?_)
  rw [← e1] at h
  have z1 := pz e1 z0
  replace t10 := pk e1 t10
  replace t92 := pk e1 t92
  clear t9
  have t93 := pq e1 z0
  clear e1 z0
  refine qv (v := pb) (by rfl) (exec_indexAt rfl t92 t93 (G1 _)) (fun a2 e2 => ?_)
  rw [← e2] at h
  have z2 := pz e2 z1
  replace t10 := pk e2 t10
  clear t92 t93
  have t94 := pq e2 z1
  clear e2 z1
  refine qv (v := sv) (by rfl) (exec_load rfl t94 G2) (fun a3 e3 => ?_)
  rw [← e3] at h
  have z3 := pz e3 z2
  replace t10 := pk e3 t10
  clear t94
  have t95 := pq e3 z2
  clear e3 z2
  refine qv (v := kv) (by rfl) (exec_move rfl t10) (fun a4 e4 => ?_)
  rw [← e4] at h
  have z4 := pz e4 z3
  replace t95 := pk e4 t95
  clear t10
  have t96 := pq e4 z3
  clear e4 z3
  refine qv (v := pe) (by rfl) (exec_indexAt rfl t95 t96 (G3 _)) (fun a5 e5 => ?_)
  rw [← e5] at h
  have z5 := pz e5 z4
  clear t95 t96
  have t97 := pq e5 z4
  clear e5 z4
  refine qv (v := xv) (by rfl) (exec_load rfl t97 G4) (fun a6 e6 => ?_)
  rw [← e6] at h
  have z6 := pz e6 z5
  clear t97
  have t98 := pq e6 z5
  clear e6 z5
  refine qk (v := p) (by rfl) (exec_alloc rfl EA) (fun a7 e7 => ?_)
  rw [← e7] at h
  have z7 := pz e7 z6
  replace t98 := pk e7 t98
  have t11 := pq e7 z6
  clear e7 z6
  refine qs (by rfl) (exec_store rfl t11 t98 ES) ?_
  exact wpList_nil (h _ _ (rfl) rfl)
def al25_o0 : Oper := ⟨some 99, .load 32 (.tmp 11), 32, "lists.go:228", #[], none⟩
def al25_o1 : Oper := ⟨some 100, .move (.tmp 9), 3, "lists.go:228", #[], none⟩
def al25_o2 : Oper := ⟨some 101, .binOp BinOp.sub 3 (Operand.const (Value.int IntKind.i64 (-7))) (.tmp 100) 3, 3, "lists.go:228", #[⟨1, .data⟩], none⟩
def al25_o3 : Oper := ⟨some 102, .build 32 #[(1, .tmp 101)], 32, "lists.go:228", #[⟨2, .data⟩], none⟩
def al25_o4 : Oper := ⟨some 103, .binOp BinOp.eql 32 (.tmp 99) (.tmp 102) 32, 4, "lists.go:228", #[⟨0, .data⟩, ⟨3, .data⟩], none⟩
def al25_o5 : Oper := ⟨some 104, .unOp UnOp.not 4 (.tmp 103), 4, "lists.go:228", #[⟨4, .data⟩], none⟩
def al25_ops : Array Oper := #[al25_o0, al25_o1, al25_o2, al25_o3, al25_o4, al25_o5]
theorem al25 (p iv xv : Value) (z : Int) (a : Act) (w : World) (Q : Exit → Act → World → Prop) (hsz : a.tmps.size = 133)
    (t11 : a.tmps.getD 11 undef = p)
    (t9 : a.tmps.getD 9 undef = iv)
    (G1 : (Instr.loadAt 32 (p)).run Try.prog w = .ok (xv) w)
    (G2 : ∀ W, (eqGuard BinOp.sub 3 (Operand.const (Value.int IntKind.i64 (-7))) (Operand.tmp 100) (.int .i64 (-7)) (iv)).run Try.prog W = .ok () W)
    (G3 : ∀ W, (binOp BinOp.sub 3 (.int .i64 (-7)) (iv)).run Try.prog W = .ok (.int .i64 z) W)
    (G4 : ∀ W, (eqGuard BinOp.eql 32 (Operand.tmp 99) (Operand.tmp 102) (xv) (IdK.v ⟨List.replicate 32 0, z⟩)).run Try.prog W = .ok () W)
    (G5 : ∀ W, (binOp BinOp.eql 32 (xv) (IdK.v ⟨List.replicate 32 0, z⟩)).run Try.prog W = .ok (.bool true) W)
    (h : ∀ (a' : Act) (w' : World), w' = w → a' = ((((((a).put (some 99) (xv)).put (some 100) (iv)).put (some 101) (.int .i64 z)).put (some 102) (IdK.v ⟨List.replicate 32 0, z⟩)).put (some 103) (.bool true)).put (some 104) (.bool false) → Q .normal a' w') :
    (Code.region 25 al25_ops false).wp Try.prog Q a w := by
  refine wp_region_list ?_
  change wpList _ _ _ [al25_o0, al25_o1, al25_o2, al25_o3, al25_o4, al25_o5] _ _
  refine qv (v := xv) (by rfl) (exec_load rfl t11 G1) (fun a0 e0 => ?_)
  rw [← e0] at h
  have z0 := pz e0 hsz
  replace t9 := pk e0 t9
  clear t11
  have t99 := pq e0 hsz
  clear e0 hsz
  refine qv (v := iv) (by rfl) (exec_move rfl t9) (fun a1 e1 => ?_)
  rw [← e1] at h
  have z1 := pz e1 z0
  replace t99 := pk e1 t99
  clear t9
  have t100 := pq e1 z0
  clear e1 z0
  refine qv (v := .int .i64 z) (by rfl) (exec_binOp rfl rfl t100 (G2 _) (G3 _)) (fun a2 e2 => ?_)
  rw [← e2] at h
  have z2 := pz e2 z1
  replace t99 := pk e2 t99
  clear t100
  have t101 := pq e2 z1
  clear e2 z1
  refine qv (v := IdK.v ⟨List.replicate 32 0, z⟩) (by rfl) (exec_bid z rfl t101) (fun a3 e3 => ?_)
  rw [← e3] at h
  have z3 := pz e3 z2
  replace t99 := pk e3 t99
  clear t101
  have t102 := pq e3 z2
  clear e3 z2
  refine qv (v := .bool true) (by rfl) (exec_binOp rfl t99 t102 (G4 _) (G5 _)) (fun a4 e4 => ?_)
  rw [← e4] at h
  have z4 := pz e4 z3
  clear t99 t102
  have t103 := pq e4 z3
  clear e4 z3
  refine qv (v := .bool false) (by rfl) (by unfold al25_o5; go_simp) (fun a5 e5 => ?_)
  rw [← e5] at h
  have z5 := pz e5 z4
  clear t103
  clear e5 z4
  exact wpList_nil (h _ _ (rfl) rfl)
def al30_o0 : Oper := ⟨some 117, .move (.tmp 0), 110, "lists.go:233", #[], none⟩
def al30_o1 : Oper := ⟨some 118, .nilCheck (.tmp 117), 0, "lists.go:233", #[⟨0, .data⟩], none⟩
def al30_o2 : Oper := ⟨some 119, .fieldAddr 73 (.tmp 118) 2, 0, "lists.go:233", #[⟨1, .data⟩], none⟩
def al30_o3 : Oper := ⟨some 120, .load 56 (.tmp 119), 56, "lists.go:233", #[⟨2, .data⟩], none⟩
def al30_o4 : Oper := ⟨some 121, .move (.tmp 9), 3, "lists.go:233", #[], none⟩
def al30_o5 : Oper := ⟨some 122, .indexAddr 56 (.tmp 120) (.tmp 121), 0, "lists.go:233", #[⟨3, .data⟩, ⟨4, .data⟩], none⟩
def al30_o6 : Oper := ⟨some 123, .load 44 (.tmp 122), 44, "lists.go:233", #[⟨5, .data⟩], none⟩
def al30_o7 : Oper := ⟨some 124, .move (.tmp 12), 3, "lists.go:233", #[], none⟩
def al30_o8 : Oper := ⟨some 125, .indexAddr 44 (.tmp 123) (.tmp 124), 0, "lists.go:233", #[⟨6, .data⟩, ⟨7, .data⟩], none⟩
def al30_o9 : Oper := ⟨some 126, .load 32 (.tmp 125), 32, "lists.go:233", #[⟨8, .data⟩], none⟩
def al30_o10 : Oper := ⟨some 13, .alloc 32, 0, "lists.go:233", #[], none⟩
def al30_o11 : Oper := ⟨none, .store 32 (.tmp 13) (.tmp 126), 0, "lists.go:233", #[⟨10, .data⟩, ⟨9, .data⟩, ⟨0, .phase⟩, ⟨1, .phase⟩, ⟨2, .phase⟩, ⟨3, .phase⟩, ⟨4, .phase⟩, ⟨5, .phase⟩, ⟨6, .phase⟩, ⟨7, .phase⟩, ⟨8, .phase⟩, ⟨9, .phase⟩, ⟨10, .phase⟩], none⟩
def al30_ops : Array Oper := #[al30_o0, al30_o1, al30_o2, al30_o3, al30_o4, al30_o5, al30_o6, al30_o7, al30_o8, al30_o9, al30_o10, al30_o11]
theorem al30 (q : Nat) (iv kv lv pb sv pe xv p : Value) (w1 w2 : World) (a : Act) (w : World) (Q : Exit → Act → World → Prop) (hsz : a.tmps.size = 133)
    (t0 : a.tmps.getD 0 undef = .pointer (some ⟨q, 0, none⟩))
    (t9 : a.tmps.getD 9 undef = iv)
    (t12 : a.tmps.getD 12 undef = kv)
    (EA : (Instr.alloc 32 true (.tuple #[])).run Try.prog w = .ok p w1) (ES : (Instr.storeAt 32 p xv).run Try.prog w1 = .ok () w2)
    (G1 : (Instr.loadAt 56 (.pointer (some ⟨q, 0 + 2, none⟩))).run Try.prog w = .ok (lv) w)
    (G2 : ∀ W, (Instr.indexAt 56 (lv) (iv)).run Try.prog W = .ok (pb) W)
    (G3 : (Instr.loadAt 44 (pb)).run Try.prog w = .ok (sv) w)
    (G4 : ∀ W, (Instr.indexAt 44 (sv) (kv)).run Try.prog W = .ok (pe) W)
    (G5 : (Instr.loadAt 32 (pe)).run Try.prog w = .ok (xv) w)
    (h : ∀ (a' : Act) (w' : World), w' = w2 → a' = (((((((((((a).put (some 117) (.pointer (some ⟨q, 0, none⟩))).put (some 118) (.pointer (some ⟨q, 0, none⟩))).put (some 119) (.pointer (some ⟨q, 0 + 2, none⟩))).put (some 120) (lv)).put (some 121) (iv)).put (some 122) (pb)).put (some 123) (sv)).put (some 124) (kv)).put (some 125) (pe)).put (some 126) (xv)).put (some 13) (p) → Q .normal a' w') :
    (Code.region 30 al30_ops false).wp Try.prog Q a w := by
  refine wp_region_list ?_
  change wpList _ _ _ [al30_o0, al30_o1, al30_o2, al30_o3, al30_o4, al30_o5, al30_o6, al30_o7, al30_o8, al30_o9, al30_o10, al30_o11] _ _
  refine qv (v := .pointer (some ⟨q, 0, none⟩)) (by rfl) (exec_move rfl t0) (fun a0 e0 => ?_)
  rw [← e0] at h
  have z0 := pz e0 hsz
  replace t9 := pk e0 t9
  replace t12 := pk e0 t12
  clear t0
  have t117 := pq e0 hsz
  clear e0 hsz
  refine qv (v := .pointer (some ⟨q, 0, none⟩)) (by rfl) (exec_nilCheck rfl t117) (fun a1 e1 => ?_)
  rw [← e1] at h
  have z1 := pz e1 z0
  replace t9 := pk e1 t9
  replace t12 := pk e1 t12
  clear t117
  have t118 := pq e1 z0
  clear e1 z0
  refine qv (v := .pointer (some ⟨q, 0 + 2, none⟩)) (by rfl) (exec_fieldAt rfl t118 (fg_73_2 _ _ _)) (fun a2 e2 => ?_)
  rw [← e2] at h
  have z2 := pz e2 z1
  replace t9 := pk e2 t9
  replace t12 := pk e2 t12
  clear t118
  have t119 := pq e2 z1
  clear e2 z1
  refine qv (v := lv) (by rfl) (exec_load rfl t119 G1) (fun a3 e3 => ?_)
  rw [← e3] at h
  have z3 := pz e3 z2
  replace t9 := pk e3 t9
  replace t12 := pk e3 t12
  clear t119
  have t120 := pq e3 z2
  clear e3 z2
  refine qv (v := iv) (by rfl) (exec_move rfl t9) (fun a4 e4 => ?_)
  rw [← e4] at h
  have z4 := pz e4 z3
  replace t12 := pk e4 t12
  replace t120 := pk e4 t120
  clear t9
  have t121 := pq e4 z3
  clear e4 z3
  refine qv (v := pb) (by rfl) (exec_indexAt rfl t120 t121 (G2 _)) (fun a5 e5 => ?_)
  rw [← e5] at h
  have z5 := pz e5 z4
  replace t12 := pk e5 t12
  clear t120 t121
  have t122 := pq e5 z4
  clear e5 z4
  refine qv (v := sv) (by rfl) (exec_load rfl t122 G3) (fun a6 e6 => ?_)
  rw [← e6] at h
  have z6 := pz e6 z5
  replace t12 := pk e6 t12
  clear t122
  have t123 := pq e6 z5
  clear e6 z5
  refine qv (v := kv) (by rfl) (exec_move rfl t12) (fun a7 e7 => ?_)
  rw [← e7] at h
  have z7 := pz e7 z6
  replace t123 := pk e7 t123
  clear t12
  have t124 := pq e7 z6
  clear e7 z6
  refine qv (v := pe) (by rfl) (exec_indexAt rfl t123 t124 (G4 _)) (fun a8 e8 => ?_)
  rw [← e8] at h
  have z8 := pz e8 z7
  clear t123 t124
  have t125 := pq e8 z7
  clear e8 z7
  refine qv (v := xv) (by rfl) (exec_load rfl t125 G5) (fun a9 e9 => ?_)
  rw [← e9] at h
  have z9 := pz e9 z8
  clear t125
  have t126 := pq e9 z8
  clear e9 z8
  refine qk (v := p) (by rfl) (exec_alloc rfl EA) (fun a10 e10 => ?_)
  rw [← e10] at h
  have z10 := pz e10 z9
  replace t126 := pk e10 t126
  have t13 := pq e10 z9
  clear e10 z9
  refine qs (by rfl) (exec_store rfl t13 t126 ES) ?_
  exact wpList_nil (h _ _ (rfl) rfl)
def al31_o0 : Oper := ⟨some 127, .load 32 (.tmp 13), 32, "lists.go:234", #[], none⟩
def al31_o1 : Oper := ⟨some 128, .move (.tmp 9), 3, "lists.go:234", #[], none⟩
def al31_o2 : Oper := ⟨some 129, .binOp BinOp.sub 3 (Operand.const (Value.int IntKind.i64 (-7))) (.tmp 128) 3, 3, "lists.go:234", #[⟨1, .data⟩], none⟩
def al31_o3 : Oper := ⟨some 130, .build 32 #[(1, .tmp 129)], 32, "lists.go:234", #[⟨2, .data⟩], none⟩
def al31_o4 : Oper := ⟨some 131, .binOp BinOp.eql 32 (.tmp 127) (.tmp 130) 32, 4, "lists.go:234", #[⟨0, .data⟩, ⟨3, .data⟩], none⟩
def al31_o5 : Oper := ⟨some 132, .unOp UnOp.not 4 (.tmp 131), 4, "lists.go:234", #[⟨4, .data⟩], none⟩
def al31_ops : Array Oper := #[al31_o0, al31_o1, al31_o2, al31_o3, al31_o4, al31_o5]
theorem al31 (p iv xv : Value) (z : Int) (a : Act) (w : World) (Q : Exit → Act → World → Prop) (hsz : a.tmps.size = 133)
    (t13 : a.tmps.getD 13 undef = p)
    (t9 : a.tmps.getD 9 undef = iv)
    (G1 : (Instr.loadAt 32 (p)).run Try.prog w = .ok (xv) w)
    (G2 : ∀ W, (eqGuard BinOp.sub 3 (Operand.const (Value.int IntKind.i64 (-7))) (Operand.tmp 128) (.int .i64 (-7)) (iv)).run Try.prog W = .ok () W)
    (G3 : ∀ W, (binOp BinOp.sub 3 (.int .i64 (-7)) (iv)).run Try.prog W = .ok (.int .i64 z) W)
    (G4 : ∀ W, (eqGuard BinOp.eql 32 (Operand.tmp 127) (Operand.tmp 130) (xv) (IdK.v ⟨List.replicate 32 0, z⟩)).run Try.prog W = .ok () W)
    (G5 : ∀ W, (binOp BinOp.eql 32 (xv) (IdK.v ⟨List.replicate 32 0, z⟩)).run Try.prog W = .ok (.bool true) W)
    (h : ∀ (a' : Act) (w' : World), w' = w → a' = ((((((a).put (some 127) (xv)).put (some 128) (iv)).put (some 129) (.int .i64 z)).put (some 130) (IdK.v ⟨List.replicate 32 0, z⟩)).put (some 131) (.bool true)).put (some 132) (.bool false) → Q .normal a' w') :
    (Code.region 31 al31_ops false).wp Try.prog Q a w := by
  refine wp_region_list ?_
  change wpList _ _ _ [al31_o0, al31_o1, al31_o2, al31_o3, al31_o4, al31_o5] _ _
  refine qv (v := xv) (by rfl) (exec_load rfl t13 G1) (fun a0 e0 => ?_)
  rw [← e0] at h
  have z0 := pz e0 hsz
  replace t9 := pk e0 t9
  clear t13
  have t127 := pq e0 hsz
  clear e0 hsz
  refine qv (v := iv) (by rfl) (exec_move rfl t9) (fun a1 e1 => ?_)
  rw [← e1] at h
  have z1 := pz e1 z0
  replace t127 := pk e1 t127
  clear t9
  have t128 := pq e1 z0
  clear e1 z0
  refine qv (v := .int .i64 z) (by rfl) (exec_binOp rfl rfl t128 (G2 _) (G3 _)) (fun a2 e2 => ?_)
  rw [← e2] at h
  have z2 := pz e2 z1
  replace t127 := pk e2 t127
  clear t128
  have t129 := pq e2 z1
  clear e2 z1
  refine qv (v := IdK.v ⟨List.replicate 32 0, z⟩) (by rfl) (exec_bid z rfl t129) (fun a3 e3 => ?_)
  rw [← e3] at h
  have z3 := pz e3 z2
  replace t127 := pk e3 t127
  clear t129
  have t130 := pq e3 z2
  clear e3 z2
  refine qv (v := .bool true) (by rfl) (exec_binOp rfl t127 t130 (G4 _) (G5 _)) (fun a4 e4 => ?_)
  rw [← e4] at h
  have z4 := pz e4 z3
  clear t127 t130
  have t131 := pq e4 z3
  clear e4 z3
  refine qv (v := .bool false) (by rfl) (by unfold al31_o5; go_simp) (fun a5 e5 => ?_)
  rw [← e5] at h
  have z5 := pz e5 z4
  clear t131
  clear e5 z4
  exact wpList_nil (h _ _ (rfl) rfl)
def takeB0_o0 : Oper := ⟨some 4, .move (.tmp 0), 110, "lists.go:44", #[], none⟩
def takeB0_o1 : Oper := ⟨some 5, .move (.tmp 0), 110, "lists.go:44", #[], none⟩
def takeB0_o2 : Oper := ⟨some 6, .nilCheck (.tmp 5), 0, "lists.go:44", #[⟨1, .data⟩], none⟩
def takeB0_o3 : Oper := ⟨some 7, .fieldAddr 73 (.tmp 6) 2, 0, "lists.go:44", #[⟨2, .data⟩], none⟩
def takeB0_o4 : Oper := ⟨some 8, .load 56 (.tmp 7), 56, "lists.go:44", #[⟨3, .data⟩], none⟩
def takeB0_o5 : Oper := ⟨some 9, .move (.tmp 1), 44, "lists.go:44", #[], none⟩
def takeB0_o6 : Oper := ⟨some 10, .buildSlice 56 1 #[(0, .tmp 9)], 56, "lists.go:44", #[⟨5, .data⟩], none⟩
def takeB0_o7 : Oper := ⟨some 11, .call { callee := Callee.builtin Builtin.append, args := #[.tmp 8, .tmp 10], argTypes := #[56, 56] }, 56, "lists.go:44", #[⟨4, .data⟩, ⟨6, .data⟩], none⟩
def takeB0_o8 : Oper := ⟨some 12, .nilCheck (.tmp 4), 0, "lists.go:44", #[⟨0, .data⟩, ⟨0, .phase⟩, ⟨1, .phase⟩, ⟨2, .phase⟩, ⟨3, .phase⟩, ⟨4, .phase⟩, ⟨5, .phase⟩, ⟨6, .phase⟩, ⟨7, .phase⟩], none⟩
def takeB0_o9 : Oper := ⟨some 13, .fieldAddr 73 (.tmp 12) 2, 0, "lists.go:44", #[⟨8, .data⟩, ⟨0, .phase⟩, ⟨1, .phase⟩, ⟨2, .phase⟩, ⟨3, .phase⟩, ⟨4, .phase⟩, ⟨5, .phase⟩, ⟨6, .phase⟩, ⟨7, .phase⟩], none⟩
def takeB0_o10 : Oper := ⟨none, .store 56 (.tmp 13) (.tmp 11), 0, "lists.go:44", #[⟨9, .data⟩, ⟨7, .data⟩, ⟨7, .chain⟩, ⟨0, .phase⟩, ⟨1, .phase⟩, ⟨2, .phase⟩, ⟨3, .phase⟩, ⟨4, .phase⟩, ⟨5, .phase⟩, ⟨6, .phase⟩, ⟨7, .phase⟩], none⟩
def takeB0_ops : Array Oper := #[takeB0_o0, takeB0_o1, takeB0_o2, takeB0_o3, takeB0_o4, takeB0_o5, takeB0_o6, takeB0_o7, takeB0_o8, takeB0_o9, takeB0_o10]
theorem takeB0 (q : Nat) (lv av sv rv : Value) (w1 w2 w3 : World) (a : Act) (w : World) (Q : Exit → Act → World → Prop) (hsz : a.tmps.size = 14)
    (t0 : a.tmps.getD 0 undef = .pointer (some ⟨q, 0, none⟩))
    (t1 : a.tmps.getD 1 undef = lv)
    (EB : (Instr.buildSlice 56 1 #[(0, lv)]).run Try.prog w = .ok sv w1) (EA : (Builtin.append_ #[56, 56] 56 #[av, sv]).run Try.prog w1 = .ok rv w2) (ES : (Instr.storeAt 56 (.pointer (some ⟨q, 0 + 2, none⟩)) rv).run Try.prog w2 = .ok () w3)
    (G1 : (Instr.loadAt 56 (.pointer (some ⟨q, 0 + 2, none⟩))).run Try.prog w = .ok (av) w)
    (h : ∀ (a' : Act) (w' : World), w' = w3 → a' = ((((((((((a).put (some 4) (.pointer (some ⟨q, 0, none⟩))).put (some 5) (.pointer (some ⟨q, 0, none⟩))).put (some 6) (.pointer (some ⟨q, 0, none⟩))).put (some 7) (.pointer (some ⟨q, 0 + 2, none⟩))).put (some 8) (av)).put (some 9) (lv)).put (some 10) (sv)).put (some 11) (rv)).put (some 12) (.pointer (some ⟨q, 0, none⟩))).put (some 13) (.pointer (some ⟨q, 0 + 2, none⟩)) → Q .normal a' w') :
    (Code.region 0 takeB0_ops false).wp Try.prog Q a w := by
  refine wp_region_list ?_
  change wpList _ _ _ [takeB0_o0, takeB0_o1, takeB0_o2, takeB0_o3, takeB0_o4, takeB0_o5, takeB0_o6, takeB0_o7, takeB0_o8, takeB0_o9, takeB0_o10] _ _
  refine qv (v := .pointer (some ⟨q, 0, none⟩)) (by rfl) (exec_move rfl t0) (fun a0 e0 => ?_)
  rw [← e0] at h
  have z0 := pz e0 hsz
  replace t0 := pk e0 t0
  replace t1 := pk e0 t1
  have t4 := pq e0 hsz
  clear e0 hsz
  refine qv (v := .pointer (some ⟨q, 0, none⟩)) (by rfl) (exec_move rfl t0) (fun a1 e1 => ?_)
  rw [← e1] at h
  have z1 := pz e1 z0
  replace t1 := pk e1 t1
  replace t4 := pk e1 t4
  clear t0
  have t5 := pq e1 z0
  clear e1 z0
  refine qv (v := .pointer (some ⟨q, 0, none⟩)) (by rfl) (exec_nilCheck rfl t5) (fun a2 e2 => ?_)
  rw [← e2] at h
  have z2 := pz e2 z1
  replace t1 := pk e2 t1
  replace t4 := pk e2 t4
  clear t5
  have t6 := pq e2 z1
  clear e2 z1
  refine qv (v := .pointer (some ⟨q, 0 + 2, none⟩)) (by rfl) (exec_fieldAt rfl t6 (fg_73_2 _ _ _)) (fun a3 e3 => ?_)
  rw [← e3] at h
  have z3 := pz e3 z2
  replace t1 := pk e3 t1
  replace t4 := pk e3 t4
  clear t6
  have t7 := pq e3 z2
  clear e3 z2
  refine qv (v := av) (by rfl) (exec_load rfl t7 G1) (fun a4 e4 => ?_)
  rw [← e4] at h
  have z4 := pz e4 z3
  replace t1 := pk e4 t1
  replace t4 := pk e4 t4
  clear t7
  have t8 := pq e4 z3
  clear e4 z3
  refine qv (v := lv) (by rfl) (exec_move rfl t1) (fun a5 e5 => ?_)
  rw [← e5] at h
  have z5 := pz e5 z4
  replace t4 := pk e5 t4
  replace t8 := pk e5 t8
  clear t1
  have t9 := pq e5 z4
  clear e5 z4
  refine qk (v := sv) (by rfl) (exec_buildSlice rfl t9 EB) (fun a6 e6 => ?_)
  rw [← e6] at h
  have z6 := pz e6 z5
  replace t4 := pk e6 t4
  replace t8 := pk e6 t8
  clear t9
  have t10 := pq e6 z5
  clear e6 z5
  refine qk (v := rv) (by rfl) (exec_append rfl t8 t10 EA) (fun a7 e7 => ?_)
  rw [← e7] at h
  have z7 := pz e7 z6
  replace t4 := pk e7 t4
  clear t8 t10
  have t11 := pq e7 z6
  clear e7 z6
  refine qv (v := .pointer (some ⟨q, 0, none⟩)) (by rfl) (exec_nilCheck rfl t4) (fun a8 e8 => ?_)
  rw [← e8] at h
  have z8 := pz e8 z7
  replace t11 := pk e8 t11
  clear t4
  have t12 := pq e8 z7
  clear e8 z7
  refine qv (v := .pointer (some ⟨q, 0 + 2, none⟩)) (by rfl) (exec_fieldAt rfl t12 (fg_73_2 _ _ _)) (fun a9 e9 => ?_)
  rw [← e9] at h
  have z9 := pz e9 z8
  replace t11 := pk e9 t11
  clear t12
  have t13 := pq e9 z8
  clear e9 z8
  refine qs (by rfl) (exec_store rfl t13 t11 ES) ?_
  exact wpList_nil (h _ _ (rfl) rfl)
end Go.Proofs.Ytlejbdepoemcjaa
namespace Go.Proofs.Ytlejbdepoemcjaa.B
open Go.RowKit
set_option linter.unusedVariables false
set_option linter.unusedSimpArgs false
def mkI (i : Nat) : IdK := ⟨List.replicate 32 0, -7 - (i : Int)⟩
theorem mkI_ok {i : Nat} (h : i ≤ 7700000000000) : (mkI i).ok := ⟨by simp [mkI], by simp [mkI]; omega, by simp [mkI]; omega⟩
def xC (i : Nat) : List Value := (mkI i).c
theorem xC_len (i : Nat) : (xC i).length = 33 := by simp [xC, mkI, IdK.c, hcs_len]
theorem rpC_flat (n : Nat) (y : IdK) : rpC n y.c = flatI (List.replicate n y) := by
  induction n with
  | zero => rfl
  | succ n ih => rw [rpC_cons, ih, List.replicate_succ]; rfl
theorem flatI_drop : ∀ {L : List IdK}, (∀ x ∈ L, x.ok) → ∀ k, (flatI L).drop (k * 33) = flatI (L.drop k)
  | L, ok, 0 => by simp
  | [], ok, k + 1 => by simp [flatI]
  | x :: L, ok, k + 1 => by
    have l := IdK.len (ok x (by simp))
    have h := flatI_drop (L := L) (fun y hy => ok y (List.mem_cons_of_mem _ hy)) k
    rw [List.drop_succ_cons, ← h, flatI_cons, show (k + 1) * 33 = x.c.length + k * 33 by omega, ← List.drop_drop, List.drop_left]
theorem fill_flat {L : List IdK} (ok : ∀ x ∈ L, x.ok) (k i : Nat) : fillC k (xC i) (flatI L) = flatI (List.replicate k (mkI i) ++ L.drop k) := by
  unfold fillC
  rw [xC_len, flatI_drop ok, flatI_app, xC, rpC_flat]
theorem set_fill {L : List IdK} {k : Nat} (hk : k < L.length) (y : IdK) : (List.replicate k y ++ L.drop k).set k y = List.replicate (k + 1) y ++ L.drop (k + 1) := by
  rw [List.set_append_right _ _ (by simp), List.length_replicate, Nat.sub_self, List.drop_eq_getElem_cons hk, List.set_cons_zero, List.replicate_succ', List.append_assoc]
  rfl
theorem own_sameB {w w' : World} {base e sz n : Nat} {v : Value} {xs : List Value} (h : w.ownsRow base e sz v n xs) (hk : ∀ b, v.ownBlock = some b → w'.heap[b]? = w.heap[b]?) : w'.ownsRow base e sz v n xs := by
  refine ⟨h.1, ?_⟩
  rcases h.2 with hn | ⟨g, cap, cur, rfl, hbg, hg, rest⟩
  · exact .inl hn
  · exact .inr ⟨g, cap, cur, rfl, hbg, by rw [hk g rfl]; exact hg, rest⟩
theorem Ph1.chg {w0 w w' : World} {base q fi B cB N e sz : Nat} {qo : Option Obj} {V : Nat → Lst} {tg : Nat → Nat} {F : Nat → List Value} (h : Ph1 w0 w base q fi B cB N e sz qo V tg F) {m : Nat} (hm : m < N) {F' : List Value} (own' : w'.ownsRow base e sz (V m).v (V m).n F') (t : Tch (fun j => (V m).v.ownBlock = some j) w w') (hz : base ≤ w.heap.size) (hz0 : w0.heap.size ≤ w.heap.size) :
    Ph1 w0 w' base q fi B cB N e sz qo V tg (upF F m F') := by
  have tm := (h.ow m hm).2
  have ge : ∀ j, (V m).v.ownBlock = some j → base ≤ j := fun j hj => (World.ownsRow.lt (h.ow m hm).1 j hj).1
  have ne : ∀ b, b < w.heap.size → tg b ≠ m + 1 → w'.heap[b]? = w.heap[b]? := fun b hb hq => t.block b hb (fun e => hq (tm b e))
  refine ⟨h.bk.keep (ne q h.bk.lq (by rw [h.tq]; omega)) (ne B h.bk.lB (by rw [h.tB]; omega)) t.size, h.tq, h.tB, fun i hi => ?_, h.be.trans (t.below hz ge), fun k hk ht => (ne k (by omega) (by rw [ht]; omega)).trans (h.fr k hk ht)⟩
  obtain ⟨o, to⟩ := h.ow i hi
  unfold upF
  by_cases e : i = m
  · subst e; rw [if_pos rfl]; exact ⟨own', to⟩
  · rw [if_neg e]
    exact ⟨own_sameB o fun b hb => ne b (World.ownsRow.lt o b hb).2 (by rw [to b hb]; omega), to⟩
theorem infoIl : ∃ i, Try.prog.info? 44 = some i ∧ i.zero = some (.slice none 0 0) ∧ i.size = 1 ∧ i.bytes = 24 := info_parts (by kernel_rfl)
theorem load_ids {w : World} {b o : Nat} {v : Value} (h : w.cell? ⟨b, o, none⟩ = some v) : (Instr.loadAt 44 (.pointer (some ⟨b, o, none⟩))).run Try.prog w = .ok v w := by go_simp
theorem load_idss {w : World} {b o : Nat} {v : Value} (h : w.cell? ⟨b, o, none⟩ = some v) : (Instr.loadAt 56 (.pointer (some ⟨b, o, none⟩))).run Try.prog w = .ok v w := by go_simp
theorem ix_ids {b o n c i : Nat} (h : i < n) (hn : n ≤ 9223372036854775807) (w : World) : (Instr.indexAt 56 (.slice (some ⟨b, o, none⟩) n c) (.int .i64 (i : Int))).run Try.prog w = .ok (.pointer (some ⟨b, o + i, none⟩)) w := by go_simp
theorem sub7 {i : Nat} (h : i ≤ 7700000000000) (w : World) : (binOp .sub 3 (.int .i64 (-7)) (.int .i64 (i : Int))).run Try.prog w = .ok (.int .i64 (-7 - (i : Int))) w := by
  have e : IntKind.i64.wrap (-7 - (i : Int)) = -7 - (i : Int) := by rw [IntKind.wrap_i64]; omega
  go_simp
  first | done | exact e | rfl
theorem rdC_load {w : World} {a : Option Addr} {n i j : Nat} (h : RdC w a n (xC j)) (hi : i < n) (hj : j ≤ 7700000000000) : ∃ b off, a = some ⟨b, off, none⟩ ∧ (Instr.loadAt 32 (.pointer (some ⟨b, off + i * 33, none⟩))).run Try.prog w = .ok (mkI j).v w := by
  rcases h with h | ⟨b, off, rfl, hc⟩
  · omega
  · refine ⟨b, off, rfl, load_id_at (mkI_ok hj) fun k v hv => ?_⟩
    have hk : k < (xC j).length := (List.getElem?_eq_some_iff.1 hv).1
    have := hc (i * 33 + k) v (by have := rpC_get (x := xC j) hk hi; rw [xC_len] at this; rw [this]; exact hv)
    rwa [← Nat.add_assoc] at this
theorem run_bsL (v : Value) (hv : v.cells = #[v]) (w : World) : (Instr.buildSlice 56 1 #[(0, v)]).run Try.prog w = .ok (.slice (some ⟨w.heap.size, 0, none⟩) 1 1) (w.alloc (.cells #[v] 44)) := by
  obtain ⟨ie, hi, hz0, hs, hby⟩ := infoIl
  refine run_buildSlice w 56 44 1 _ #[v] ie _ Try.underlying56 hi hz0 (by rw [hs]; decide) (by rw [hs]; decide) ?_
  rw [hs]
  have := Go.Great.fill_whole (s := 1) (by decide) [v] ((Array.range (1 * 1)).map ((Value.slice none 0 0).cells[· % (Value.slice none 0 0).cells.size]!)) (by intro u hu; simp at hu; subst hu; rw [hv]; rfl) (by simp)
  simpa [hv] using this
theorem app_list {w : World} {base : Nat} {all : Value} {rows : List Value} (own : w.ownsRow base 44 1 all rows.length rows) (v : Value) (hv : v.cells = #[v]) (h1 : v.oneCell' = true) (hn : rows.length ≤ 7700000000000) (hb : base ≤ w.heap.size) : ∃ w1 qv w2, (Instr.buildSlice 56 1 #[(0, v)]).run Try.prog w = .ok (.slice (some ⟨w.heap.size, 0, none⟩) 1 1) w1 ∧ (Builtin.append_ #[56, 56] 56 #[all, .slice (some ⟨w.heap.size, 0, none⟩) 1 1]).run Try.prog w1 = .ok qv w2 ∧
    w2.ownsRow base 44 1 qv (rows.length + 1) (rows ++ [v]) ∧ Below w.heap.size w w1 ∧ w1.grownBy w2 all.ownBlock ∧ (qv.ownBlock = all.ownBlock ∨ qv.ownBlock = some w1.heap.size) := by
  obtain ⟨ie, hi, hz0, hs, hby⟩ := infoIl
  have b1 : Below w.heap.size w (w.alloc (.cells #[v] 44)) := (Below.refl _ _).alloc (Nat.le_refl _) _
  have c1 : (w.alloc (.cells #[v] 44)).cell? ⟨w.heap.size, 0, none⟩ = some v := (cell_of_row _ w.heap.size 0 _ _ _ (heap_alloc_new _ _)).trans rfl
  have hr := run_bsL v hv w
  generalize w.alloc (.cells #[v] 44) = w1 at *
  obtain ⟨qv, w2, e2, o2, g2, q2⟩ := app_at (P := Try.prog) w1 base 56 56 44 ie _ 1 24 Try.underlying56 hi hz0 hs hby rfl (by decide) all rows.length rows (own_below own b1) ⟨w.heap.size, 0, none⟩ 1 1 [v] rfl (fun j u hj => by
    cases j with
    | zero => simp at hj; subst hj; simpa [Addr.add] using c1
    | succ j => simp at hj) (by intro u hu; simp at hu; subst hu; exact h1) (by unfold maxLen; omega) (by omega) (Nat.le_trans hb b1.size)
  exact ⟨w1, qv, w2, hr, e2, o2, b1, g2, q2⟩
theorem app_mark {w : World} {base n j : Nat} {g : Value} (own : w.ownsRow base 32 33 g n (rpC n (xC j))) (hj : j ≤ 7700000000000) (hn : n ≤ 3000000000000) (hb : base ≤ w.heap.size) : ∃ w1 g' w2, (Instr.buildSlice 44 1 #[(0, (mkI j).v)]).run Try.prog w = .ok (.slice (some ⟨w.heap.size, 0, none⟩) 1 1) w1 ∧ (Builtin.append_ #[44, 44] 44 #[g, .slice (some ⟨w.heap.size, 0, none⟩) 1 1]).run Try.prog w1 = .ok g' w2 ∧
    w2.ownsRow base 32 33 g' (n + 1) (rpC (n + 1) (xC j)) ∧ Below w.heap.size w w1 ∧ w1.grownBy w2 g.ownBlock ∧ (g'.ownBlock = g.ownBlock ∨ g'.ownBlock = some w1.heap.size ∧ Below w1.heap.size w1 w2) := by
  have ok := mkI_ok hj
  obtain ⟨ie, hi, hz, hs, hby⟩ := info_parts infoI
  have b1 : Below w.heap.size w (w.alloc (.cells (mkI j).c.toArray 32)) := (Below.refl _ _).alloc (Nat.le_refl _) _
  have hr := run_bsI (mkI j) ok w
  have hnew : ∀ k u, (xC j)[k]? = some u → (w.alloc (.cells (mkI j).c.toArray 32)).cell? ((⟨w.heap.size, 0, none⟩ : Addr).add k) = some u := fun k u hk => by
    rw [Addr.add_mid, Nat.zero_add]
    exact cell_new w (mkI j).c 32 k u hk
  generalize w.alloc (.cells (mkI j).c.toArray 32) = w1 at *
  obtain ⟨g', w2, e2, o2, g2, q2⟩ := run_app3 (P := Try.prog) w1 base 44 44 32 ie _ 33 40 Try.underlying44 hi hz hs hby zcellsI (by decide) g n _ (own_below own b1) ⟨w.heap.size, 0, none⟩ 1 (xC j) (by rw [xC_len]) hnew (fun u hu => (mkI j).one u hu) (by unfold maxLen; omega) (by omega) (Nat.le_trans hb b1.size)
  rw [rpC_succ] at o2
  exact ⟨w1, g', w2, hr, e2, o2, b1, g2, q2⟩
theorem aloneIds_any (q B cB base N : Nat) (qo : Option Obj) (V : Nat → Lst) (L : Nat → List IdK) (tz : Nat → Nat) (w : World) (hN1 : 1 ≤ N) (hN : N ≤ 7600000000000) (hn : ∀ i, i < N → (V i).n ≤ 2600000000000) (hLn : ∀ i, i < N → (L i).length = (V i).n) (okL : ∀ i, i < N → ∀ x ∈ L i, x.ok)
    (h : Ph1 w w base q 2 B cB N 32 33 qo V tz (fun i => flatI (L i))) (hbase : base ≤ w.heap.size) :
    Calls Try.prog 60 #[.pointer (some ⟨q, 0, none⟩)] w fun e w' => e = .returned (.bool true) ∧ Below base w w' ∧ w'.heap[q]? = qo ∧ ∀ k, k < w.heap.size → tz k = 0 → w'.heap[k]? = w.heap[k]? := by
  have HP0 := hidMk h
  have HLN := hidMk hLn
  have HOK := hidMk okL
  clear h hLn okL
  go_enter Try.func60, Try.ntmps60
  go_wp2
  go_loopw [3] (fun v3 wr => ∃ m : Nat, m ≤ N ∧ v3 = .int .i64 (m : Int) ∧ Hid (Ph1 w wr base q 2 B cB N 32 33 qo V tz (mF V xC (fun i => flatI (L i)) m))) (fun v3 _ => N - (intOf v3).toNat)
  case atStart =>
    refine ⟨0, by omega, rfl, ?_⟩
    have e0 : mF V xC (fun i => flatI (L i)) 0 = fun i => flatI (L i) := by funext i; unfold mF; rw [if_neg (by omega)]
    rw [e0]
    exact HP0
  case round =>
    clear HP0
    obtain ⟨m, hm, rfl, HP⟩ := hrel
    by_cases hlt : m < N
    · obtain ⟨l, hl⟩ : ∃ l, V m = l := ⟨_, rfl⟩
      obtain ⟨a0, n0, k0⟩ := l
      have hnm : n0 ≤ 2600000000000 := by have := hn m hlt; rw [hl] at this; exact this
      have HLm := hidMk (show (L m).length = n0 by have := HLN.out m hlt; rw [hl] at this; exact this)
      have HS : Hid (Ph1 w wr base q 2 B cB N 32 33 qo V tz (upF (mF V xC (fun i => flatI (L i)) m) m (fillC 0 (xC m) (flatI (L m))))) := by
        have e0 : upF (mF V xC (fun i => flatI (L i)) m) m (fillC 0 (xC m) (flatI (L m))) = mF V xC (fun i => flatI (L i)) m := mF_start V xC (fun i => flatI (L i)) m
        rw [e0]
        exact HP
      have HV := hidMk hl
      have cq := HP.out.bk.cq
      clear HP hl
      go_wp2
      go_loopw [4] (fun v4 wx => ∃ k : Nat, k ≤ n0 ∧ v4 = .int .i64 (k : Int) ∧ Hid (Ph1 w wx base q 2 B cB N 32 33 qo V tz (upF (mF V xC (fun i => flatI (L i)) m) m (fillC k (xC m) (flatI (L m)))))) (fun v4 _ => n0 - (intOf v4).toNat)
      case atStart => exact ⟨0, by omega, rfl, HS⟩
      case round =>
        clear HS cq
        obtain ⟨k, hk, rfl, HP⟩ := hrel
        have cq := HP.out.bk.cq
        have cm : wr.cell? ⟨B, m, none⟩ = some (.slice a0 n0 k0) := by have := HP.out.bk.cr m hlt; rw [HV.out] at this; exact this
        by_cases hkn : k < n0
        · have oo := (HP.out.ow m hlt).1
          rw [upF_at, fill_flat (HOK.out m hlt)] at oo
          have hlk : k < (L m).length := by rw [HLm.out]; exact hkn
          have hll : (List.replicate k (mkI m) ++ (L m).drop k).length = n0 := by rw [List.length_append, List.length_replicate, List.length_drop, HLm.out]; omega
          have oi : OwnI wr base (.slice a0 n0 k0) (List.replicate k (mkI m) ++ (L m).drop k) := by
            unfold OwnI
            rw [hll]
            rw [HV.out] at oo
            exact oo
          have okm := mkI_ok (i := m) (by omega)
          obtain ⟨g, cap, ev, hgl, w2, es, o2, t2, z2⟩ := own_set oi (fun x hx => by
            rcases List.mem_append.1 hx with hx | hx
            · rw [(List.mem_replicate.1 hx).2]; exact okm
            · exact HOK.out m hlt x (List.mem_of_mem_drop hx)) (i := k) (by rw [hll]; exact hkn) okm
          rw [hll] at ev
          injection ev with ev1 ev2 ev3
          subst ev1
          have hz0 : w.heap.size ≤ wr.heap.size := HP.out.be.size
          have hzb : base ≤ wr.heap.size := Nat.le_trans hbase hz0
          have NX : Hid (Ph1 w w2 base q 2 B cB N 32 33 qo V tz (upF (mF V xC (fun i => flatI (L i)) m) m (fillC (k + 1) (xC m) (flatI (L m))))) := by
            have := HP.out.chg hlt (F' := fillC (k + 1) (xC m) (flatI (L m))) (w' := w2) (by
              rw [fill_flat (HOK.out m hlt), ← set_fill hlk (mkI m), HV.out]
              have o3 := o2
              unfold OwnI at o3
              rw [List.length_set, hll] at o3
              exact o3) (by rw [HV.out]; exact t2) hzb hz0
            rw [upF_up] at this
            exact this
          have ES := hidMk es
          clear oo oi hll hlk es o2 t2 z2 HP ev3
          go_upto_region 7 with fail
          refine al7 q (.int .i64 (m : Int)) (.int .i64 (k : Int)) (.slice (some ⟨B, 0, none⟩) N cB) (.pointer (some ⟨B, 0 + m, none⟩)) (.slice (some ⟨g, 0, none⟩) n0 k0) (.pointer (some ⟨g, 0 + k * 33, none⟩)) (-7 - (m : Int)) w2 _ wr _ rfl rfl rfl rfl (by rw [Nat.zero_add]; exact ES.out) (load_idss (by rw [Nat.zero_add]; exact cq)) (fun W => ix_ids hlt (by omega) W) (load_ids (by rw [Nat.zero_add]; exact cm)) (fun W => by go_simp) (fun W => sub7 (by omega) W) (fun W => ix_id hkn (by omega) W) ?_
          intro a' w' hw' ha
          obtain rfl : w2 = w' := hw'.symm
          subst ha
          simp only [Act.put, List.setIfInBounds_toArray, List.set_cons_zero, List.set_cons_succ]
          clear ES cq cm
          go_wp2
          exact ⟨⟨k + 1, by omega, by go_num, NX⟩, by simp [intOf]; omega⟩
        · obtain rfl : k = n0 := by omega
          have NX : Hid (Ph1 w wr base q 2 B cB N 32 33 qo V tz (mF V xC (fun i => flatI (L i)) (m + 1))) := by
            have he : upF (mF V xC (fun i => flatI (L i)) m) m (fillC (V m).n (xC m) (flatI (L m))) = mF V xC (fun i => flatI (L i)) (m + 1) := mF_end V xC (fun i => flatI (L i)) m (by show (flatI (L m)).length = _; rw [flatI_len (HOK.out m hlt), xC_len, HLm.out, HV.out]; show 33 * k = k * 33; omega)
            rw [HV.out] at he
            rw [← he]
            exact HP
          clear HP
          go_wp2
          exact ⟨⟨m + 1, by omega, by go_num, NX⟩, by simp [intOf]; omega⟩
    · obtain rfl : m = N := by omega
      have zb : base ≤ wr.heap.size := Nat.le_trans hbase HP.out.be.size
      have hz00 : w.heap.size ≤ wr.heap.size := HP.out.be.size
      have HQ : Hid (∃ tg G, Ph2 w wr base q 2 B cB m 32 33 44 qo V xC tz tg 0 0 G (.slice none 0 0)) := ⟨_, _, ph2_start HP.out zb hz00⟩
      have cq := HP.out.bk.cq
      clear HP zb HLN HOK
      go_wp2
      clear cq
      go_loopw [5, 6] (fun v5 v6 wr => ∃ j : Nat, j ≤ m ∧ v6 = .int .i64 (j : Int) ∧ Hid (∃ tg G, Ph2 w wr base q 2 B cB m 32 33 44 qo V xC tz tg j j G v5)) (fun _ v6 _ => m - (intOf v6).toNat)
      case atStart => exact ⟨0, by omega, rfl, HQ⟩
      case round =>
        clear HQ
        obtain ⟨j, hj, rfl, HP⟩ := hrel
        by_cases hjm : j < m
        · obtain ⟨tg1, G, hP⟩ := HP.out
          obtain ⟨l, hl⟩ : ∃ l, V j = l := ⟨_, rfl⟩
          obtain ⟨a0, n0, k0⟩ := l
          have hnm : n0 ≤ 2600000000000 := by have := hn j hjm; rw [hl] at this; exact this
          have HV := hidMk hl
          have oo : wr.ownsRow base 32 33 (.slice a0 n0 k0) n0 (rpC n0 (xC j)) := by have := hP.ow j (Nat.le_refl _) hjm; rw [hl] at this; exact this
          have to : Tg tg1 (.slice a0 n0 k0) (j + 1) := by have := (hP.rd j hjm).2.1; rw [hl] at this; exact this
          obtain ⟨W, hW1, hW2⟩ : ∃ W, wr.heap.size ≤ W ∧ W ≤ wr.heap.size := ⟨_, Nat.le_refl _, Nat.le_refl _⟩
          have hv : Hid (∀ b off, 0 < n0 → a0 = some ⟨b, off, none⟩ → (Value.slice a0 n0 k0).ownBlock = some b ∧ off = 0 ∧ b < W) := fun b off hn e => by
            rcases oo.2 with ⟨e1, _⟩ | ⟨g, cap, cur, e1, _, hg, _⟩
            · simp at e1; omega
            · simp only [Value.slice.injEq] at e1
              rw [e] at e1
              obtain ⟨e2, _⟩ := e1
              simp at e2
              have := (Array.getElem?_eq_some_iff.1 hg).1
              exact ⟨by rw [e]; rfl, e2.2, by omega⟩
          obtain ⟨aA, cA, hA⟩ := own_slice hP.al.1
          subst hA
          have HI : Hid (∃ tg, Ph2 w wr base q 2 B cB m 32 33 44 qo V xC tz tg (j + 1) j G (.slice aA j cA) ∧ Gr wr base 32 33 W tg (xC j) j n0 k0 0 a0 (.slice a0 n0 k0)) := ⟨tg1, hP.weak _ (by omega), oo, to, .inl rfl, hW2⟩
          have cq := hP.bk.cq
          have cm : wr.cell? ⟨B, j, none⟩ = some (.slice a0 n0 k0) := by have := hP.bk.cr j hjm; rw [hl] at this; exact this
          clear oo to hP HP hl hW1 hW2
          go_wp2
          clear cq cm
          go_loopw [7, 8] (fun v7 v8 wx => ∃ k : Nat, k ≤ 20 ∧ v8 = .int .i64 (k : Int) ∧ Hid (∃ tg, Ph2 w wx base q 2 B cB m 32 33 44 qo V xC tz tg (j + 1) j G (.slice aA j cA) ∧ Gr wx base 32 33 W tg (xC j) j n0 k0 k a0 v7)) (fun _ v8 _ => 20 - (intOf v8).toNat)
          case atStart => exact ⟨0, by omega, rfl, HI⟩
          case round =>
            clear HI
            obtain ⟨k, hk, rfl, HI⟩ := hrel
            obtain ⟨tg2, P, og, tgg, hg, hWx⟩ := HI.out
            obtain ⟨ga, gc, rfl⟩ := own_slice og
            obtain ⟨gn, hgn⟩ : ∃ gn, n0 + k = gn := ⟨_, rfl⟩
            have HGN := hidMk hgn
            rw [hgn] at og tgg hg ⊢
            clear HI
            by_cases hlt : k < 20
            · have zb : base ≤ wr.heap.size := P.zb
              obtain ⟨w1, g', w2, e1, e2, own', b1, gr, h4⟩ := app_mark og (show j ≤ 7700000000000 by omega) (by omega) zb
              have E1 := hidMk e1
              have E2 := hidMk e2
              have PA := P.below b1
              have YA : RdC w1 a0 n0 (xC j) := by have := (PA.rd j hjm).1; rw [HV.out] at this; exact this
              have hl2 : ∀ b, (Value.slice ga gn gc).ownBlock = some b → base ≤ b ∧ b < w1.heap.size := fun b e => by have := World.ownsRow.lt og b e; have := b1.size; omega
              have own2 : w2.ownsRow base 32 33 g' (n0 + k + 1) (rpC (n0 + k + 1) (xC j)) := by rw [HGN.out]; exact own'
              obtain ⟨yn, gn2⟩ := grow_step (cap := k0) (Nat.le_trans hWx b1.size) (by rw [xC_len]; decide) YA hv.out own2 gr h4 hg
              have h5 : g'.ownBlock = (Value.slice ga gn gc).ownBlock ∨ g'.ownBlock = some w1.heap.size := by rcases h4 with e | ⟨e, _⟩; exact .inl e; exact .inr e
              have hrd : ∀ i, i + 1 = j + 1 → i < m → RdC w2 (V i).a (V i).n (xC i) := fun i e hi => by
                obtain rfl : i = j := by omega
                rw [HV.out]
                exact yn
              obtain ⟨P2, T2⟩ := PA.grow (j + 1) (.slice ga gn gc) g' (by omega) gr tgg hl2 h5 hrd (fun i h1 _ => by omega) (fun i hi => by omega) (by omega)
              have NX : Hid (∃ tg, Ph2 w w2 base q 2 B cB m 32 33 44 qo V xC tz tg (j + 1) j G (.slice aA j cA) ∧ Gr w2 base 32 33 W tg (xC j) j n0 k0 (k + 1) a0 g') := ⟨_, P2, own2, T2, gn2, Nat.le_trans (Nat.le_trans hWx b1.size) gr.size⟩
              clear e1 e2 PA YA hl2 own2 yn gn2 h5 hrd P2 T2 own' b1 gr h4 P og tgg hg hWx zb
              go_upto_region 16 with fail
              refine al16 (.slice ga gn gc) (.int .i64 (j : Int)) (.slice (some ⟨wr.heap.size, 0, none⟩) 1 1) g' (-7 - (j : Int)) w1 w2 _ wr _ rfl rfl rfl E1.out E2.out (fun W => by go_simp) (fun W => sub7 (by omega) W) ?_
              intro a' w' hw' ha
              obtain rfl : w2 = w' := hw'.symm
              subst ha
              simp only [Act.put, List.setIfInBounds_toArray, List.set_cons_zero, List.set_cons_succ]
              clear E1 E2 HGN
              go_wp2
              exact ⟨⟨k + 1, by omega, by go_num, NX⟩, by simp [intOf]; omega⟩
            · obtain rfl : k = 20 := by omega
              clear hlt
              have zb : base ≤ wr.heap.size := P.zb
              have hlen : ((List.range j).map G).length = j := by simp
              have al0 := P.al.1
              obtain ⟨w1, all', w2, e1, e2, rows', b1, gr, hblk⟩ := app_list (rows := (List.range j).map G) (by rw [hlen]; exact al0) (.slice ga gn gc) rfl rfl (by rw [hlen]; omega) zb
              rw [hlen] at rows'
              have E1 := hidMk e1
              have E2 := hidMk e2
              have og2 : w1.ownsRow base 32 33 (.slice ga gn gc) ((V j).n + 20) (rpC ((V j).n + 20) (xC j)) := by
                have := own_below og b1
                rw [HV.out]
                simp only
                rw [HGN.out]
                exact this
              obtain ⟨tg3, P3⟩ := (P.below b1).done hjm (.slice ga gn gc) all' og2 tgg gr hblk rows'
              have NX : Hid (∃ tg G, Ph2 w w2 base q 2 B cB m 32 33 44 qo V xC tz tg (j + 1) (j + 1) G all') := ⟨_, _, P3⟩
              clear e1 e2 rows' b1 gr hblk og2 P3 P og tgg hg hWx zb al0 hlen HGN
              go_upto_region 17 with fail
              refine al17 (.slice aA j cA) (.slice ga gn gc) (.slice (some ⟨wr.heap.size, 0, none⟩) 1 1) all' w1 w2 _ wr _ rfl rfl rfl E1.out E2.out ?_
              intro a' w' hw' ha
              obtain rfl : w2 = w' := hw'.symm
              subst ha
              simp only [Act.put, List.setIfInBounds_toArray, List.set_cons_zero, List.set_cons_succ]
              clear E1 E2
              go_wp2
              exact ⟨⟨j + 1, by omega, by go_num, NX⟩, by simp [intOf]; omega⟩
        · obtain rfl : j = m := by omega
          obtain ⟨tg1, G, hP⟩ := HP.out
          obtain ⟨A, cA, rfl, cG⟩ : ∃ A cA, u5 = .slice (some ⟨A, 0, none⟩) j cA ∧ ∀ wx, Below wr.heap.size wr wx → ∀ i, i < j → wx.cell? ⟨A, i, none⟩ = some (G i) := by
            have hc := fun g hg wx (hb : Below wr.heap.size wr wx) => World.ownsRow.cells (own_below hP.al.1 hb) (g := g) hg
            rcases hP.al.1.2 with ⟨_, hn0⟩ | ⟨g, cap, cur, rfl, _⟩
            · omega
            · refine ⟨g, cap, rfl, fun wx hb i hi => ?_⟩
              have := hc g rfl wx hb i (G i) (by rw [List.getElem?_map, List.getElem?_range hi]; rfl)
              rw [Addr.add_mid, Nat.zero_add] at this
              exact this
          have HC := hidMk cG
          have PP : Hid (∀ wx, Below wr.heap.size wr wx → Ph2 w wx base q 2 B cB j 32 33 44 qo V xC tz tg1 j j G (.slice (some ⟨A, 0, none⟩) j cA)) := fun wx hb => hP.below hb
          have cq := hP.bk.cq
          clear HP hP cG
          go_wp2
          clear cq
          generalize wr = wB at *
          go_loopw [9] (fun v9 wx => ∃ k : Nat, k ≤ j ∧ v9 = .int .i64 (k : Int) ∧ Hid (Below wB.heap.size wB wx)) (fun v9 _ => j - (intOf v9).toNat)
          case atStart => exact ⟨0, by omega, rfl, Below.refl _ _⟩
          case round =>
            obtain ⟨k, hk, rfl, HB⟩ := hrel
            by_cases hkj : k < j
            · obtain ⟨l, hl⟩ : ∃ l, V k = l := ⟨_, rfl⟩
              obtain ⟨a0, n0, k0⟩ := l
              have hnm : n0 ≤ 2600000000000 := by have := hn k hkj; rw [hl] at this; exact this
              have PF := PP.out _ HB.out
              have cg := HC.out _ HB.out k hkj
              obtain ⟨og, _⟩ := PF.gs k hkj
              rw [hl] at og
              obtain ⟨nn, hnn⟩ : ∃ nn, nn = n0 + 20 := ⟨_, rfl⟩
              have hnb : nn ≤ 2600000000020 := by omega
              have og' : wr.ownsRow base 32 33 (G k) nn (rpC nn (xC k)) := by rw [hnn]; exact og
              clear og hnn
              obtain ⟨ga, gc, e1⟩ := own_slice og'
              rw [e1] at cg og'
              have cm : wr.cell? ⟨B, k, none⟩ = some (.slice a0 n0 k0) := by have := PF.bk.cr k hkj; rw [hl] at this; exact this
              have rdk : RdC wr a0 n0 (xC k) := by have := (PF.rd k hkj).1; rw [hl] at this; exact this
              have cq := PF.bk.cq
              have ZC : Hid (∀ wx, Below wr.heap.size wr wx → wx.cell? ⟨A, k, none⟩ = some (.slice ga nn gc) ∧ RdC wx ga nn (xC k)) := fun wx hb => ⟨(hb.cell (p := ⟨A, k, none⟩) (block_lt_of_cell cg)).trans cg, (own_rd og').below hb⟩
              have YC : Hid (∀ wx, Below wr.heap.size wr wx → wx.cell? ⟨q, 2, none⟩ = some (.slice (some ⟨B, 0, none⟩) j cB) ∧ wx.cell? ⟨B, k, none⟩ = some (.slice a0 n0 k0) ∧ RdC wx a0 n0 (xC k)) := fun wx hb => ⟨(hb.cell (p := ⟨q, 2, none⟩) (block_lt_of_cell cq)).trans cq, (hb.cell (p := ⟨B, k, none⟩) (block_lt_of_cell cm)).trans cm, rdk.below hb⟩
              have TRW : Hid (∀ wx, Below wr.heap.size wr wx → Below wB.heap.size wB wx) := fun wx hb => HB.out.trans (hb.mono HB.out.size)
              have okk := mkI_ok (i := k) (by omega)
              have hkb : k ≤ 7700000000000 := by omega
              clear PF hl og' e1 rdk
              generalize wr = wC at *
              go_wp2
              clear cq cm cg
              go_loopw [10] (fun v10 wx => ∃ i : Nat, i ≤ nn ∧ v10 = .int .i64 (i : Int) ∧ Hid (Below wC.heap.size wC wx)) (fun v10 _ => nn - (intOf v10).toNat)
              case atStart => exact ⟨0, by omega, rfl, Below.refl _ _⟩
              case round =>
                obtain ⟨i, hi, rfl, HB2⟩ := hrel
                obtain ⟨c1, rz⟩ := ZC.out _ HB2.out
                by_cases hlt : i < nn
                · obtain ⟨bb, bo, rfl, hld⟩ := rdC_load rz hlt hkb
                  obtain ⟨w1, ea, es⟩ := id_newB wr (mkI k) okk
                  obtain ⟨W3, hW3⟩ : ∃ W, W = wr.alloc (.cells (mkI k).c.toArray 32) := ⟨_, rfl⟩
                  have B3 : Hid (Below wr.heap.size wr W3) := by rw [hW3]; exact (Below.refl _ _).alloc (Nat.le_refl _) _
                  have I3 : Hid (IdAt W3 wr.heap.size (mkI k)) := by rw [hW3]; exact heap_alloc_new _ _
                  rw [← hW3] at es
                  have EA := hidMk ea
                  have ES := hidMk es
                  have LD := hidMk hld
                  have LC := hidMk (load_ids c1)
                  have NB : Hid (Below wC.heap.size wC W3) := HB2.out.trans (B3.out.mono HB2.out.size)
                  clear rz hW3 ea es hld
                  go_upto_region 24 with fail
                  clear c1
                  refine al24 (.slice (some ⟨A, 0, none⟩) j cA) (.int .i64 (k : Int)) (.int .i64 (i : Int)) (.pointer (some ⟨A, 0 + k, none⟩)) (.slice (some ⟨bb, bo, none⟩) nn gc) (.pointer (some ⟨bb, bo + i * 33, none⟩)) (mkI k).v (.pointer (some ⟨wr.heap.size, 0, none⟩)) w1 W3 _ wr _ rfl rfl rfl rfl EA.out ES.out (fun W => ix_ids hkj (by omega) W) (by rw [Nat.zero_add]; exact LC.out) (fun W => ix_id hlt (by omega) W) LD.out ?_
                  intro a' w' hw' ha
                  obtain rfl : W3 = w' := hw'.symm
                  subst ha
                  simp only [Act.put, List.setIfInBounds_toArray, List.set_cons_zero, List.set_cons_succ]
                  clear EA ES LD LC
                  go_upto_region 25 with fail
                  refine al25 (.pointer (some ⟨wr.heap.size, 0, none⟩)) (.int .i64 (k : Int)) (mkI k).v (-7 - (k : Int)) _ W3 _ rfl rfl rfl (load_id okk I3.out) (fun W => by go_simp) (fun W => sub7 hkb W) (fun W => guard_id _ _ (mkI k) (mkI k) _ _) (fun W => by have := eql_id (mkI k) (mkI k) okk okk W; rw [decide_eq_true rfl] at this; exact this) ?_
                  intro a' w' hw' ha
                  obtain rfl : W3 = w' := hw'.symm
                  subst ha
                  simp only [Act.put, List.setIfInBounds_toArray, List.set_cons_zero, List.set_cons_succ]
                  clear B3 I3
                  go_wp2
                  exact ⟨⟨i + 1, by omega, by go_num, NB⟩, by simp [intOf]; omega⟩
                · obtain rfl : i = nn := by omega
                  clear hlt rz
                  obtain ⟨cq, cm, rz⟩ := YC.out _ HB2.out
                  clear rz
                  generalize wr = wD at *
                  go_wp2
                  clear c1 cq cm
                  go_loopw [12] (fun v12 wx => ∃ i : Nat, i ≤ n0 ∧ v12 = .int .i64 (i : Int) ∧ Hid (Below wC.heap.size wC wx)) (fun v12 _ => n0 - (intOf v12).toNat)
                  case atStart => exact ⟨0, by omega, rfl, HB2⟩
                  case round =>
                    obtain ⟨i2, hi2, rfl, HB3⟩ := hrel
                    obtain ⟨cq, cm, rz⟩ := YC.out _ HB3.out
                    by_cases hlt : i2 < n0
                    · obtain ⟨bb, bo, rfl, hld⟩ := rdC_load rz hlt hkb
                      obtain ⟨w1, ea, es⟩ := id_newB wr (mkI k) okk
                      obtain ⟨W3, hW3⟩ : ∃ W, W = wr.alloc (.cells (mkI k).c.toArray 32) := ⟨_, rfl⟩
                      have B3 : Hid (Below wr.heap.size wr W3) := by rw [hW3]; exact (Below.refl _ _).alloc (Nat.le_refl _) _
                      have I3 : Hid (IdAt W3 wr.heap.size (mkI k)) := by rw [hW3]; exact heap_alloc_new _ _
                      rw [← hW3] at es
                      have EA := hidMk ea
                      have ES := hidMk es
                      have LD := hidMk hld
                      have LC := hidMk (load_ids cm)
                      have LQ := hidMk (load_idss cq)
                      have NB : Hid (Below wC.heap.size wC W3) := HB3.out.trans (B3.out.mono HB3.out.size)
                      clear rz hW3 ea es hld
                      go_upto_region 30 with fail
                      clear cq cm
                      refine al30 q (.int .i64 (k : Int)) (.int .i64 (i2 : Int)) (.slice (some ⟨B, 0, none⟩) j cB) (.pointer (some ⟨B, 0 + k, none⟩)) (.slice (some ⟨bb, bo, none⟩) n0 k0) (.pointer (some ⟨bb, bo + i2 * 33, none⟩)) (mkI k).v (.pointer (some ⟨wr.heap.size, 0, none⟩)) w1 W3 _ wr _ rfl rfl rfl rfl EA.out ES.out (by rw [Nat.zero_add]; exact LQ.out) (fun W => ix_ids hkj (by omega) W) (by rw [Nat.zero_add]; exact LC.out) (fun W => ix_id hlt (by omega) W) LD.out ?_
                      intro a' w' hw' ha
                      obtain rfl : W3 = w' := hw'.symm
                      subst ha
                      simp only [Act.put, List.setIfInBounds_toArray, List.set_cons_zero, List.set_cons_succ]
                      clear EA ES LD LC LQ
                      go_upto_region 31 with fail
                      refine al31 (.pointer (some ⟨wr.heap.size, 0, none⟩)) (.int .i64 (k : Int)) (mkI k).v (-7 - (k : Int)) _ W3 _ rfl rfl rfl (load_id okk I3.out) (fun W => by go_simp) (fun W => sub7 hkb W) (fun W => guard_id _ _ (mkI k) (mkI k) _ _) (fun W => by have := eql_id (mkI k) (mkI k) okk okk W; rw [decide_eq_true rfl] at this; exact this) ?_
                      intro a' w' hw' ha
                      obtain rfl : W3 = w' := hw'.symm
                      subst ha
                      simp only [Act.put, List.setIfInBounds_toArray, List.set_cons_zero, List.set_cons_succ]
                      clear B3 I3
                      go_wp2
                      exact ⟨⟨i2 + 1, by omega, by go_num, NB⟩, by simp [intOf]; omega⟩
                    · obtain rfl : i2 = n0 := by omega
                      have NB : Hid (Below wB.heap.size wB wr) := TRW.out _ HB3.out
                      clear hlt rz
                      go_wp2
                      exact ⟨⟨k + 1, by omega, by go_num, NB⟩, by simp [intOf]; omega⟩
            · obtain rfl : k = j := by omega
              have PF := PP.out _ HB.out
              have HR : Hid (Below base w wr ∧ wr.heap[q]? = qo ∧ ∀ k, k < w.heap.size → tz k = 0 → wr.heap[k]? = w.heap[k]?) := ⟨PF.be, PF.bk.ho, fun k hk ht => (PF.fr k hk ht).2⟩
              clear hkj PF
              go_wp2
              go_ret
              exact ⟨rfl, HR.out.1, HR.out.2.1, HR.out.2.2⟩
end Go.Proofs.Ytlejbdepoemcjaa.B
namespace Go.Proofs.Ytlejbdepoemcjaa
open Go.RowKit
set_option linter.unusedVariables false
set_option linter.unusedSimpArgs false
set_option maxHeartbeats 1000000 in
theorem aloneBytes (q : Nat) (w : World) (c : w.cell? ⟨q, 0, none⟩ = some (.slice none 0 0)) :
    Calls Try.prog 58 #[.pointer (some ⟨q, 0, none⟩)] w fun e w' => e = .returned (.bool true) ∧ w' = w := by
  go_enter Try.func58, Try.ntmps58
  go_wp2
  go_loopw [3] (fun i wr => i = .int .i64 0 ∧ wr = w) (fun _ _ => 0)
  case atStart => exact ⟨rfl, rfl⟩
  case round =>
    obtain ⟨rfl, rfl⟩ := hrel
    go_wp2
    go_loopw [5, 6] (fun all i wy => all = .slice none 0 0 ∧ i = .int .i64 0 ∧ wy = wr) (fun _ _ _ => 0)
    case atStart => exact ⟨rfl, rfl, rfl⟩
    case round =>
      obtain ⟨rfl, rfl, rfl⟩ := hrel
      go_wp2
      go_loopw [9] (fun i wz => i = .int .i64 0 ∧ wz = wr) (fun _ _ => 0)
      case atStart => exact ⟨rfl, rfl⟩
      case round =>
        obtain ⟨rfl, rfl⟩ := hrel
        go_wp2
        go_ret
        exact ⟨rfl, rfl⟩
set_option maxHeartbeats 1000000 in
theorem aloneHashes (q : Nat) (w : World) (c : w.cell? ⟨q, 1, none⟩ = some (.slice none 0 0)) :
    Calls Try.prog 59 #[.pointer (some ⟨q, 0, none⟩)] w fun e w' => e = .returned (.bool true) ∧ w' = w := by
  go_enter Try.func59, Try.ntmps59
  go_wp2
  go_loopw [3] (fun i wr => i = .int .i64 0 ∧ wr = w) (fun _ _ => 0)
  case atStart => exact ⟨rfl, rfl⟩
  case round =>
    obtain ⟨rfl, rfl⟩ := hrel
    go_wp2
    go_loopw [5, 6] (fun all i wy => all = .slice none 0 0 ∧ i = .int .i64 0 ∧ wy = wr) (fun _ _ _ => 0)
    case atStart => exact ⟨rfl, rfl, rfl⟩
    case round =>
      obtain ⟨rfl, rfl, rfl⟩ := hrel
      go_wp2
      go_loopw [9] (fun i wz => i = .int .i64 0 ∧ wz = wr) (fun _ _ => 0)
      case atStart => exact ⟨rfl, rfl⟩
      case round =>
        obtain ⟨rfl, rfl⟩ := hrel
        go_wp2
        go_ret
        exact ⟨rfl, rfl⟩
set_option maxHeartbeats 1000000 in
theorem aloneIds (q : Nat) (w : World) (c : w.cell? ⟨q, 2, none⟩ = some (.slice none 0 0)) :
    Calls Try.prog 60 #[.pointer (some ⟨q, 0, none⟩)] w fun e w' => e = .returned (.bool true) ∧ w' = w := by
  go_enter Try.func60, Try.ntmps60
  go_wp2
  go_loopw [3] (fun i wr => i = .int .i64 0 ∧ wr = w) (fun _ _ => 0)
  case atStart => exact ⟨rfl, rfl⟩
  case round =>
    obtain ⟨rfl, rfl⟩ := hrel
    go_wp2
    go_loopw [5, 6] (fun all i wy => all = .slice none 0 0 ∧ i = .int .i64 0 ∧ wy = wr) (fun _ _ _ => 0)
    case atStart => exact ⟨rfl, rfl, rfl⟩
    case round =>
      obtain ⟨rfl, rfl, rfl⟩ := hrel
      go_wp2
      go_loopw [9] (fun i wz => i = .int .i64 0 ∧ wz = wr) (fun _ _ => 0)
      case atStart => exact ⟨rfl, rfl⟩
      case round =>
        obtain ⟨rfl, rfl⟩ := hrel
        go_wp2
        go_ret
        exact ⟨rfl, rfl⟩
set_option maxHeartbeats 1000000 in
theorem aloneTexts (q : Nat) (w : World) (c : w.cell? ⟨q, 3, none⟩ = some (.slice none 0 0)) :
    Calls Try.prog 61 #[.pointer (some ⟨q, 0, none⟩)] w fun e w' => e = .returned (.bool true) ∧ w' = w := by
  go_enter Try.func61, Try.ntmps61
  go_wp2
  go_loopw [3] (fun i wr => i = .int .i64 0 ∧ wr = w) (fun _ _ => 0)
  case atStart => exact ⟨rfl, rfl⟩
  case round =>
    obtain ⟨rfl, rfl⟩ := hrel
    go_wp2
    go_loopw [5, 6] (fun all i wy => all = .slice none 0 0 ∧ i = .int .i64 0 ∧ wy = wr) (fun _ _ _ => 0)
    case atStart => exact ⟨rfl, rfl, rfl⟩
    case round =>
      obtain ⟨rfl, rfl, rfl⟩ := hrel
      go_wp2
      go_loopw [9] (fun i wz => i = .int .i64 0 ∧ wz = wr) (fun _ _ => 0)
      case atStart => exact ⟨rfl, rfl⟩
      case round =>
        obtain ⟨rfl, rfl⟩ := hrel
        go_wp2
        go_ret
        exact ⟨rfl, rfl⟩
set_option maxHeartbeats 1000000 in
theorem aloneInts (q : Nat) (w : World) (c : w.cell? ⟨q, 4, none⟩ = some (.slice none 0 0)) :
    Calls Try.prog 62 #[.pointer (some ⟨q, 0, none⟩)] w fun e w' => e = .returned (.bool true) ∧ w' = w := by
  go_enter Try.func62, Try.ntmps62
  go_wp2
  go_loopw [3] (fun i wr => i = .int .i64 0 ∧ wr = w) (fun _ _ => 0)
  case atStart => exact ⟨rfl, rfl⟩
  case round =>
    obtain ⟨rfl, rfl⟩ := hrel
    go_wp2
    go_loopw [5, 6] (fun all i wy => all = .slice none 0 0 ∧ i = .int .i64 0 ∧ wy = wr) (fun _ _ _ => 0)
    case atStart => exact ⟨rfl, rfl, rfl⟩
    case round =>
      obtain ⟨rfl, rfl, rfl⟩ := hrel
      go_wp2
      go_loopw [9] (fun i wz => i = .int .i64 0 ∧ wz = wr) (fun _ _ => 0)
      case atStart => exact ⟨rfl, rfl⟩
      case round =>
        obtain ⟨rfl, rfl⟩ := hrel
        go_wp2
        go_ret
        exact ⟨rfl, rfl⟩
set_option maxHeartbeats 1000000 in
theorem aloneEntries (q : Nat) (w : World) (c : w.cell? ⟨q, 5, none⟩ = some (.slice none 0 0)) :
    Calls Try.prog 63 #[.pointer (some ⟨q, 0, none⟩)] w fun e w' => e = .returned (.bool true) ∧ w' = w := by
  go_enter Try.func63, Try.ntmps63
  go_wp2
  go_loopw [3] (fun i wr => i = .int .i64 0 ∧ wr = w) (fun _ _ => 0)
  case atStart => exact ⟨rfl, rfl⟩
  case round =>
    obtain ⟨rfl, rfl⟩ := hrel
    go_wp2
    go_loopw [5, 6] (fun all i wy => all = .slice none 0 0 ∧ i = .int .i64 0 ∧ wy = wr) (fun _ _ _ => 0)
    case atStart => exact ⟨rfl, rfl, rfl⟩
    case round =>
      obtain ⟨rfl, rfl, rfl⟩ := hrel
      go_wp2
      go_loopw [9] (fun i wz => i = .int .i64 0 ∧ wz = wr) (fun _ _ => 0)
      case atStart => exact ⟨rfl, rfl⟩
      case round =>
        obtain ⟨rfl, rfl⟩ := hrel
        go_wp2
        go_ret
        exact ⟨rfl, rfl⟩
set_option maxHeartbeats 1000000 in
theorem aloneEdits (q : Nat) (w : World) (c : w.cell? ⟨q, 6, none⟩ = some (.slice none 0 0)) :
    Calls Try.prog 64 #[.pointer (some ⟨q, 0, none⟩)] w fun e w' => e = .returned (.bool true) ∧ w' = w := by
  go_enter Try.func64, Try.ntmps64
  go_wp2
  go_loopw [3] (fun i wr => i = .int .i64 0 ∧ wr = w) (fun _ _ => 0)
  case atStart => exact ⟨rfl, rfl⟩
  case round =>
    obtain ⟨rfl, rfl⟩ := hrel
    go_wp2
    go_loopw [5, 6] (fun all i wy => all = .slice none 0 0 ∧ i = .int .i64 0 ∧ wy = wr) (fun _ _ _ => 0)
    case atStart => exact ⟨rfl, rfl, rfl⟩
    case round =>
      obtain ⟨rfl, rfl, rfl⟩ := hrel
      go_wp2
      go_loopw [9] (fun i wz => i = .int .i64 0 ∧ wz = wr) (fun _ _ => 0)
      case atStart => exact ⟨rfl, rfl⟩
      case round =>
        obtain ⟨rfl, rfl⟩ := hrel
        go_wp2
        go_ret
        exact ⟨rfl, rfl⟩
set_option maxHeartbeats 1000000 in
theorem aloneOps (q : Nat) (w : World) (c : w.cell? ⟨q, 7, none⟩ = some (.slice none 0 0)) :
    Calls Try.prog 65 #[.pointer (some ⟨q, 0, none⟩)] w fun e w' => e = .returned (.bool true) ∧ w' = w := by
  go_enter Try.func65, Try.ntmps65
  go_wp2
  go_loopw [3] (fun i wr => i = .int .i64 0 ∧ wr = w) (fun _ _ => 0)
  case atStart => exact ⟨rfl, rfl⟩
  case round =>
    obtain ⟨rfl, rfl⟩ := hrel
    go_wp2
    go_loopw [5, 6] (fun all i wy => all = .slice none 0 0 ∧ i = .int .i64 0 ∧ wy = wr) (fun _ _ _ => 0)
    case atStart => exact ⟨rfl, rfl, rfl⟩
    case round =>
      obtain ⟨rfl, rfl, rfl⟩ := hrel
      go_wp2
      go_loopw [9] (fun i wz => i = .int .i64 0 ∧ wz = wr) (fun _ _ => 0)
      case atStart => exact ⟨rfl, rfl⟩
      case round =>
        obtain ⟨rfl, rfl⟩ := hrel
        go_wp2
        go_ret
        exact ⟨rfl, rfl⟩
set_option maxHeartbeats 1000000 in
theorem aloneSpans (q : Nat) (w : World) (c : w.cell? ⟨q, 8, none⟩ = some (.slice none 0 0)) :
    Calls Try.prog 66 #[.pointer (some ⟨q, 0, none⟩)] w fun e w' => e = .returned (.bool true) ∧ w' = w := by
  go_enter Try.func66, Try.ntmps66
  go_wp2
  go_loopw [3] (fun i wr => i = .int .i64 0 ∧ wr = w) (fun _ _ => 0)
  case atStart => exact ⟨rfl, rfl⟩
  case round =>
    obtain ⟨rfl, rfl⟩ := hrel
    go_wp2
    go_loopw [5, 6] (fun all i wy => all = .slice none 0 0 ∧ i = .int .i64 0 ∧ wy = wr) (fun _ _ _ => 0)
    case atStart => exact ⟨rfl, rfl, rfl⟩
    case round =>
      obtain ⟨rfl, rfl, rfl⟩ := hrel
      go_wp2
      go_loopw [9] (fun i wz => i = .int .i64 0 ∧ wz = wr) (fun _ _ => 0)
      case atStart => exact ⟨rfl, rfl⟩
      case round =>
        obtain ⟨rfl, rfl⟩ := hrel
        go_wp2
        go_ret
        exact ⟨rfl, rfl⟩
set_option maxHeartbeats 1000000 in
theorem aloneSteps (q : Nat) (w : World) (c : w.cell? ⟨q, 9, none⟩ = some (.slice none 0 0)) :
    Calls Try.prog 67 #[.pointer (some ⟨q, 0, none⟩)] w fun e w' => e = .returned (.bool true) ∧ w' = w := by
  go_enter Try.func67, Try.ntmps67
  go_wp2
  go_loopw [3] (fun i wr => i = .int .i64 0 ∧ wr = w) (fun _ _ => 0)
  case atStart => exact ⟨rfl, rfl⟩
  case round =>
    obtain ⟨rfl, rfl⟩ := hrel
    go_wp2
    go_loopw [5, 6] (fun all i wy => all = .slice none 0 0 ∧ i = .int .i64 0 ∧ wy = wr) (fun _ _ _ => 0)
    case atStart => exact ⟨rfl, rfl, rfl⟩
    case round =>
      obtain ⟨rfl, rfl, rfl⟩ := hrel
      go_wp2
      go_loopw [9] (fun i wz => i = .int .i64 0 ∧ wz = wr) (fun _ _ => 0)
      case atStart => exact ⟨rfl, rfl⟩
      case round =>
        obtain ⟨rfl, rfl⟩ := hrel
        go_wp2
        go_ret
        exact ⟨rfl, rfl⟩
set_option maxHeartbeats 1000000 in
theorem aloneCredits (q : Nat) (w : World) (c : w.cell? ⟨q, 10, none⟩ = some (.slice none 0 0)) :
    Calls Try.prog 68 #[.pointer (some ⟨q, 0, none⟩)] w fun e w' => e = .returned (.bool true) ∧ w' = w := by
  go_enter Try.func68, Try.ntmps68
  go_wp2
  go_loopw [3] (fun i wr => i = .int .i64 0 ∧ wr = w) (fun _ _ => 0)
  case atStart => exact ⟨rfl, rfl⟩
  case round =>
    obtain ⟨rfl, rfl⟩ := hrel
    go_wp2
    go_loopw [5, 6] (fun all i wy => all = .slice none 0 0 ∧ i = .int .i64 0 ∧ wy = wr) (fun _ _ _ => 0)
    case atStart => exact ⟨rfl, rfl, rfl⟩
    case round =>
      obtain ⟨rfl, rfl, rfl⟩ := hrel
      go_wp2
      go_loopw [9] (fun i wz => i = .int .i64 0 ∧ wz = wr) (fun _ _ => 0)
      case atStart => exact ⟨rfl, rfl⟩
      case round =>
        obtain ⟨rfl, rfl⟩ := hrel
        go_wp2
        go_ret
        exact ⟨rfl, rfl⟩
set_option maxHeartbeats 1000000 in
theorem aloneRights (q : Nat) (w : World) (c : w.cell? ⟨q, 11, none⟩ = some (.slice none 0 0)) :
    Calls Try.prog 69 #[.pointer (some ⟨q, 0, none⟩)] w fun e w' => e = .returned (.bool true) ∧ w' = w := by
  go_enter Try.func69, Try.ntmps69
  go_wp2
  go_loopw [3] (fun i wr => i = .int .i64 0 ∧ wr = w) (fun _ _ => 0)
  case atStart => exact ⟨rfl, rfl⟩
  case round =>
    obtain ⟨rfl, rfl⟩ := hrel
    go_wp2
    go_loopw [5, 6] (fun all i wy => all = .slice none 0 0 ∧ i = .int .i64 0 ∧ wy = wr) (fun _ _ _ => 0)
    case atStart => exact ⟨rfl, rfl, rfl⟩
    case round =>
      obtain ⟨rfl, rfl, rfl⟩ := hrel
      go_wp2
      go_loopw [9] (fun i wz => i = .int .i64 0 ∧ wz = wr) (fun _ _ => 0)
      case atStart => exact ⟨rfl, rfl⟩
      case round =>
        obtain ⟨rfl, rfl⟩ := hrel
        go_wp2
        go_ret
        exact ⟨rfl, rfl⟩
set_option maxHeartbeats 1000000 in
theorem aloneUpdates (q : Nat) (w : World) (c : w.cell? ⟨q, 12, none⟩ = some (.slice none 0 0)) :
    Calls Try.prog 70 #[.pointer (some ⟨q, 0, none⟩)] w fun e w' => e = .returned (.bool true) ∧ w' = w := by
  go_enter Try.func70, Try.ntmps70
  go_wp2
  go_loopw [3] (fun i wr => i = .int .i64 0 ∧ wr = w) (fun _ _ => 0)
  case atStart => exact ⟨rfl, rfl⟩
  case round =>
    obtain ⟨rfl, rfl⟩ := hrel
    go_wp2
    go_loopw [5, 6] (fun all i wy => all = .slice none 0 0 ∧ i = .int .i64 0 ∧ wy = wr) (fun _ _ _ => 0)
    case atStart => exact ⟨rfl, rfl, rfl⟩
    case round =>
      obtain ⟨rfl, rfl, rfl⟩ := hrel
      go_wp2
      go_loopw [9] (fun i wz => i = .int .i64 0 ∧ wz = wr) (fun _ _ => 0)
      case atStart => exact ⟨rfl, rfl⟩
      case round =>
        obtain ⟨rfl, rfl⟩ := hrel
        go_wp2
        go_ret
        exact ⟨rfl, rfl⟩
set_option maxHeartbeats 1000000 in
theorem aloneNodes (q : Nat) (w : World) (c : w.cell? ⟨q, 13, none⟩ = some (.slice none 0 0)) :
    Calls Try.prog 71 #[.pointer (some ⟨q, 0, none⟩)] w fun e w' => e = .returned (.bool true) ∧ w' = w := by
  go_enter Try.func71, Try.ntmps71
  go_wp2
  go_loopw [3] (fun i wr => i = .int .i64 0 ∧ wr = w) (fun _ _ => 0)
  case atStart => exact ⟨rfl, rfl⟩
  case round =>
    obtain ⟨rfl, rfl⟩ := hrel
    go_wp2
    go_loopw [5, 6] (fun all i wy => all = .slice none 0 0 ∧ i = .int .i64 0 ∧ wy = wr) (fun _ _ _ => 0)
    case atStart => exact ⟨rfl, rfl, rfl⟩
    case round =>
      obtain ⟨rfl, rfl, rfl⟩ := hrel
      go_wp2
      go_loopw [9] (fun i wz => i = .int .i64 0 ∧ wz = wr) (fun _ _ => 0)
      case atStart => exact ⟨rfl, rfl⟩
      case round =>
        obtain ⟨rfl, rfl⟩ := hrel
        go_wp2
        go_ret
        exact ⟨rfl, rfl⟩
set_option maxHeartbeats 1000000 in
theorem alonePatches (q : Nat) (w : World) (c : w.cell? ⟨q, 14, none⟩ = some (.slice none 0 0)) :
    Calls Try.prog 72 #[.pointer (some ⟨q, 0, none⟩)] w fun e w' => e = .returned (.bool true) ∧ w' = w := by
  go_enter Try.func72, Try.ntmps72
  go_wp2
  go_loopw [3] (fun i wr => i = .int .i64 0 ∧ wr = w) (fun _ _ => 0)
  case atStart => exact ⟨rfl, rfl⟩
  case round =>
    obtain ⟨rfl, rfl⟩ := hrel
    go_wp2
    go_loopw [5, 6] (fun all i wy => all = .slice none 0 0 ∧ i = .int .i64 0 ∧ wy = wr) (fun _ _ _ => 0)
    case atStart => exact ⟨rfl, rfl, rfl⟩
    case round =>
      obtain ⟨rfl, rfl, rfl⟩ := hrel
      go_wp2
      go_loopw [9] (fun i wz => i = .int .i64 0 ∧ wz = wr) (fun _ _ => 0)
      case atStart => exact ⟨rfl, rfl⟩
      case round =>
        obtain ⟨rfl, rfl⟩ := hrel
        go_wp2
        go_ret
        exact ⟨rfl, rfl⟩
set_option maxHeartbeats 1000000 in
theorem aloneImages (q : Nat) (w : World) (c : w.cell? ⟨q, 15, none⟩ = some (.slice none 0 0)) :
    Calls Try.prog 73 #[.pointer (some ⟨q, 0, none⟩)] w fun e w' => e = .returned (.bool true) ∧ w' = w := by
  go_enter Try.func73, Try.ntmps73
  go_wp2
  go_loopw [3] (fun i wr => i = .int .i64 0 ∧ wr = w) (fun _ _ => 0)
  case atStart => exact ⟨rfl, rfl⟩
  case round =>
    obtain ⟨rfl, rfl⟩ := hrel
    go_wp2
    go_loopw [5, 6] (fun all i wy => all = .slice none 0 0 ∧ i = .int .i64 0 ∧ wy = wr) (fun _ _ _ => 0)
    case atStart => exact ⟨rfl, rfl, rfl⟩
    case round =>
      obtain ⟨rfl, rfl, rfl⟩ := hrel
      go_wp2
      go_loopw [9] (fun i wz => i = .int .i64 0 ∧ wz = wr) (fun _ _ => 0)
      case atStart => exact ⟨rfl, rfl⟩
      case round =>
        obtain ⟨rfl, rfl⟩ := hrel
        go_wp2
        go_ret
        exact ⟨rfl, rfl⟩
set_option maxHeartbeats 1000000 in
theorem aloneForks (q : Nat) (w : World) (c : w.cell? ⟨q, 16, none⟩ = some (.slice none 0 0)) :
    Calls Try.prog 74 #[.pointer (some ⟨q, 0, none⟩)] w fun e w' => e = .returned (.bool true) ∧ w' = w := by
  go_enter Try.func74, Try.ntmps74
  go_wp2
  go_loopw [3] (fun i wr => i = .int .i64 0 ∧ wr = w) (fun _ _ => 0)
  case atStart => exact ⟨rfl, rfl⟩
  case round =>
    obtain ⟨rfl, rfl⟩ := hrel
    go_wp2
    go_loopw [5, 6] (fun all i wy => all = .slice none 0 0 ∧ i = .int .i64 0 ∧ wy = wr) (fun _ _ _ => 0)
    case atStart => exact ⟨rfl, rfl, rfl⟩
    case round =>
      obtain ⟨rfl, rfl, rfl⟩ := hrel
      go_wp2
      go_loopw [9] (fun i wz => i = .int .i64 0 ∧ wz = wr) (fun _ _ => 0)
      case atStart => exact ⟨rfl, rfl⟩
      case round =>
        obtain ⟨rfl, rfl⟩ := hrel
        go_wp2
        go_ret
        exact ⟨rfl, rfl⟩
set_option maxHeartbeats 1000000 in
theorem aloneRows (q : Nat) (w : World) (c : w.cell? ⟨q, 17, none⟩ = some (.slice none 0 0)) :
    Calls Try.prog 75 #[.pointer (some ⟨q, 0, none⟩)] w fun e w' => e = .returned (.bool true) ∧ w' = w := by
  go_enter Try.func75, Try.ntmps75
  go_wp2
  go_loopw [3] (fun i wr => i = .int .i64 0 ∧ wr = w) (fun _ _ => 0)
  case atStart => exact ⟨rfl, rfl⟩
  case round =>
    obtain ⟨rfl, rfl⟩ := hrel
    go_wp2
    go_loopw [5, 6] (fun all i wy => all = .slice none 0 0 ∧ i = .int .i64 0 ∧ wy = wr) (fun _ _ _ => 0)
    case atStart => exact ⟨rfl, rfl, rfl⟩
    case round =>
      obtain ⟨rfl, rfl, rfl⟩ := hrel
      go_wp2
      go_loopw [9] (fun i wz => i = .int .i64 0 ∧ wz = wr) (fun _ _ => 0)
      case atStart => exact ⟨rfl, rfl⟩
      case round =>
        obtain ⟨rfl, rfl⟩ := hrel
        go_wp2
        go_ret
        exact ⟨rfl, rfl⟩
end Go.Proofs.Ytlejbdepoemcjaa
namespace Go.Proofs.Ytlejbdepoemcjaa.B
open Go.RowKit
set_option linter.unusedVariables false
set_option linter.unusedSimpArgs false
def bkI (all : Value) : Array Value := #[.slice none 0 0, .slice none 0 0, all, .slice none 0 0, .slice none 0 0, .slice none 0 0, .slice none 0 0, .slice none 0 0, .slice none 0 0, .slice none 0 0, .slice none 0 0, .slice none 0 0, .slice none 0 0, .slice none 0 0, .slice none 0 0, .slice none 0 0, .slice none 0 0, .slice none 0 0]
def BkI (w : World) (q base : Nat) (all : Value) (rows : List Value) : Prop := w.heap[q]? = some (.cells (bkI all) 73 (0, 0)) ∧ w.ownsRow base 44 1 all rows.length rows ∧ all.ownBlock ≠ some q
set_option maxHeartbeats 1000000 in
theorem takeI_any (q base : Nat) (all : Value) (rows : List Value) (a : Option Addr) (n c : Nat) (w : World) (hw : BkI w q base all rows) (hn : rows.length ≤ 7700000000000) (hbq : base ≤ q) :
    Calls Try.prog 28 #[.pointer (some ⟨q, 0, none⟩), .slice a n c] w fun e w' => e = .returned (.tuple #[]) ∧ (∃ all', BkI w' q base all' (rows ++ [.slice a n c]) ∧ (all'.ownBlock = all.ownBlock ∨ ∃ b, all'.ownBlock = some b ∧ w.heap.size ≤ b)) ∧ Below base w w' ∧ ∀ k, k < w.heap.size → k ≠ q → all.ownBlock ≠ some k → w'.heap[k]? = w.heap[k]? := by
  obtain ⟨hq, hr, hne⟩ := hw
  have zq : q < w.heap.size := (Array.getElem?_eq_some_iff.1 hq).1
  obtain ⟨w1, qv, w2, e1, e2, o2, b1, g2, h2⟩ := app_list hr (.slice a n c) rfl rfl hn (by omega)
  have z1 := b1.size
  have z2 := g2.size
  have hq2 : w2.heap[q]? = some (.cells (bkI all) 73 (0, 0)) := (g2.block q (by omega) (fun e => hne e.symm)).trans ((b1.block q zq).trans hq)
  have hne2 : qv.ownBlock ≠ some q := by
    rcases h2 with e | e
    · rw [e]; exact hne
    · rw [e]; intro h; simp at h; omega
  have one : qv.oneCell' = true := by
    rcases o2.2 with ⟨rfl, _⟩ | ⟨g, cap, cur, rfl, _⟩ <;> rfl
  have c0 := (cell_of_row w q 2 _ _ _ hq).trans (show (bkI all)[2]? = some all from rfl)
  have d0 := (cell_of_row w2 q 2 _ _ _ hq2).trans (show (bkI all)[2]? = some all from rfl)
  have f0 := frozen_of_row w2 q 2 _ _ hq2
  obtain ⟨ga, gc, rfl⟩ := own_slice o2
  have ES : (Instr.storeAt 56 (.pointer (some ⟨q, 2, none⟩)) (.slice ga (rows.length + 1) gc)).run Try.prog w2 = .ok () (w2.setCell ⟨q, 2, none⟩ (.slice ga (rows.length + 1) gc)) := by go_simp
  have W1 : Hid (BkI (w2.setCell ⟨q, 2, none⟩ (.slice ga (rows.length + 1) gc)) q base (.slice ga (rows.length + 1) gc) (rows ++ [.slice a n c])) := ⟨by rw [heap_setCell_same w2 q 2 _ 73 _ hq2]; rfl, by
    rw [List.length_append]
    exact own_other o2 hne2, hne2⟩
  have B1 : Hid (Below base w (w2.setCell ⟨q, 2, none⟩ (.slice ga (rows.length + 1) gc))) := (((b1.mono (by omega)).grown g2 (by omega) (fun k hk => (World.ownsRow.lt hr k hk).1))).setCell hbq _
  have FR : Hid (∀ k, k < w.heap.size → k ≠ q → all.ownBlock ≠ some k → (w2.setCell ⟨q, 2, none⟩ (.slice ga (rows.length + 1) gc)).heap[k]? = w.heap[k]?) := fun k hk hkq hko => by
    rw [Below.heap_setCell _ _ _ _ hkq, g2.block k (by omega) (fun e => hko e.symm)]
    exact b1.block k hk
  have H5 : Hid ((Value.slice ga (rows.length + 1) gc).ownBlock = all.ownBlock ∨ ∃ b, (Value.slice ga (rows.length + 1) gc).ownBlock = some b ∧ w.heap.size ≤ b) := by
    rcases h2 with e | e
    · exact Or.inl e
    · exact Or.inr ⟨_, e, z1⟩
  have E1 := hidMk e1
  have E2 := hidMk e2
  have E3 := hidMk ES
  have C0 := hidMk c0
  clear hq hr hne e1 e2 o2 b1 g2 h2 hq2 hne2 one c0 d0 f0 ES z1 z2
  go_enter Try.func28, Try.ntmps28
  refine takeB0 q (.slice a n c) all (.slice (some ⟨w.heap.size, 0, none⟩) 1 1) (.slice ga (rows.length + 1) gc) w1 w2 (w2.setCell ⟨q, 2, none⟩ (.slice ga (rows.length + 1) gc)) _ w _ rfl rfl rfl E1.out E2.out (by rw [Nat.zero_add]; exact E3.out) (load_idss (by rw [Nat.zero_add]; exact C0.out)) ?_
  intro a' w' hw' ha
  subst hw' ha
  go_end0
  exact ⟨rfl, ⟨_, W1.out, H5.out⟩, B1.out, FR.out⟩
theorem below_setRowY (B : Nat) (w : World) (g : Nat) (cs : Array Value) (h : B ≤ g) : Below B w (w.setRow g cs) :=
  ⟨rfl, rfl, rfl, by simp, fun k hk => setRow_other w g k cs (by omega)⟩
theorem hbBkI : Try.prog.built 73 [] = some (bkI (.slice none 0 0)) := by kernel_rfl
theorem hsBkI : (Try.prog.info? 73).map (·.size) = some 18 := by kernel_rfl
theorem honeI (v : Value) (h : v = .slice none 0 0) : (bkI v).all (·.oneCell') = true := by subst h; kernel_rfl
theorem bookI_any (q base bb N : Nat) (all : Value) (V : Nat → Lst) (L : Nat → List IdK) (w : World) (hN1 : 1 ≤ N) (hN : N ≤ 7600000000000) (hn : ∀ i, i < N → (V i).n ≤ 2600000000000) (hLn : ∀ i, i < N → (L i).length = (V i).n) (okL : ∀ i, i < N → ∀ x ∈ L i, x.ok)
    (bn : BkI w q bb all ((List.range N).map fun i => (V i).v)) (hbq : base ≤ q) (hbb : base ≤ bb) (ow : ∀ i, i < N → w.ownsRow base 32 33 (V i).v (V i).n (flatI (L i)))
    (sep : ∀ i j, i < N → j < N → ∀ b, (V i).v.ownBlock = some b → (V j).v.ownBlock = some b → i = j) :
    Calls Try.prog 30 #[.pointer (some ⟨q, 0, none⟩)] w fun e w' => e = .returned (.bool true) ∧ Below base w w' ∧ ∀ k, k < w.heap.size → k ≠ q → (∀ i, i < N → (V i).v.ownBlock ≠ some k) → w'.heap[k]? = w.heap[k]? := by
  obtain ⟨hq, rows, hne⟩ := bn
  have zq : q < w.heap.size := (Array.getElem?_eq_some_iff.1 hq).1
  have hlen : ((List.range N).map fun i => (V i).v).length = N := by simp
  rw [hlen] at rows
  have tyq : ∀ i, i < N → (V i).v.ownBlock ≠ some q := fun i hi e => by
    rcases (ow i hi).2 with ⟨e1, _⟩ | ⟨g, cap, cur, e1, _, hg, _⟩
    · rw [e1] at e; cases e
    · rw [e1] at e
      simp [Value.ownBlock] at e
      subst e
      rw [hq] at hg
      injection hg with hg
      injection hg with _ h2 _
      revert h2
      decide
  obtain ⟨B, cB, rfl, hBl, hc, hB⟩ : ∃ B cB, all = .slice (some ⟨B, 0, none⟩) N cB ∧ B < w.heap.size ∧ (∀ i, i < N → w.cell? ⟨B, i, none⟩ = some (V i).v) ∧ ∃ cur, w.heap[B]? = some (.cells cur 44 (0, 0)) := by
    have hc := fun g hg => World.ownsRow.cells rows (g := g) hg
    rcases rows.2 with ⟨_, hn0⟩ | ⟨g, cap, cur, rfl, hbg, hg, _⟩
    · omega
    · refine ⟨g, cap, rfl, (Array.getElem?_eq_some_iff.1 hg).1, fun i hi => ?_, cur, hg⟩
      have := hc g rfl i (V i).v (by rw [List.getElem?_map, List.getElem?_range hi]; rfl)
      rw [Addr.add_mid, Nat.zero_add] at this
      exact this
  have tyB : ∀ i, i < N → (V i).v.ownBlock ≠ some B := fun i hi e => by
    obtain ⟨cur, hB⟩ := hB
    rcases (ow i hi).2 with ⟨e1, _⟩ | ⟨g, cap, cur2, e1, _, hg, _⟩
    · rw [e1] at e; cases e
    · rw [e1] at e
      simp [Value.ownBlock] at e
      subst e
      rw [hB] at hg
      injection hg with hg
      injection hg with _ h2 _
      revert h2
      decide
  have c0 : w.cell? ⟨q, 2, none⟩ = some (.slice (some ⟨B, 0, none⟩) N cB) := (cell_of_row w q 2 _ _ _ hq).trans rfl
  have HST : Hid (Calls Try.prog 60 #[.pointer (some ⟨q, 0, none⟩)] w fun e w' => e = .returned (.bool true) ∧ Below base w w' ∧ w'.heap[q]? = some (.cells (bkI (.slice (some ⟨B, 0, none⟩) N cB)) 73 (0, 0)) ∧ ∀ k, k < w.heap.size → (∀ i, i < N → (V i).v.ownBlock ≠ some k) → w'.heap[k]? = w.heap[k]?) :=
    (aloneIds_any q B cB base N _ V L (tgOf N V) w hN1 hN hn hLn okL ⟨⟨c0, hc, hq, hBl⟩, tgOf_no q tyq, tgOf_no B tyB, fun i hi => ⟨ow i hi, tgOf_own sep i hi⟩, Below.refl _ _, fun _ _ _ => rfl⟩ (by omega)).mono fun e w' h => ⟨h.1, h.2.1, h.2.2.1, fun k hk hi => h.2.2.2 k hk (tgOf_no k hi)⟩
  have CBytes : Hid (Calls Try.prog 58 #[.pointer (some ⟨q, 0, none⟩)] w fun e w' => e = .returned (.bool true) ∧ w' = w) := aloneBytes q w ((cell_of_row w q 0 _ _ _ hq).trans rfl)
  have CHashes : Hid (Calls Try.prog 59 #[.pointer (some ⟨q, 0, none⟩)] w fun e w' => e = .returned (.bool true) ∧ w' = w) := aloneHashes q w ((cell_of_row w q 1 _ _ _ hq).trans rfl)
  clear hq rows hne hc c0 ow sep hlen tyq tyB hB
  go_enter Try.func30, Try.ntmps30
  go_wp2_with fail
  refine (CBytes.out).mono ?_
  rintro e wy ⟨rfl, hwy⟩
  subst hwy
  go_wp2_with fail
  refine (CHashes.out).mono ?_
  rintro e wy ⟨rfl, hwy⟩
  subst hwy
  go_wp2_with fail
  refine HST.out.mono ?_
  rintro e w1 ⟨rfl, b1, hq1, fr1⟩
  have FR := hidMk fr1
  clear fr1
  have CTexts : Hid (Calls Try.prog 61 #[.pointer (some ⟨q, 0, none⟩)] w1 fun e w' => e = .returned (.bool true) ∧ w' = w1) := aloneTexts q w1 ((cell_of_row w1 q 3 _ _ _ hq1).trans rfl)
  have CInts : Hid (Calls Try.prog 62 #[.pointer (some ⟨q, 0, none⟩)] w1 fun e w' => e = .returned (.bool true) ∧ w' = w1) := aloneInts q w1 ((cell_of_row w1 q 4 _ _ _ hq1).trans rfl)
  have CEntries : Hid (Calls Try.prog 63 #[.pointer (some ⟨q, 0, none⟩)] w1 fun e w' => e = .returned (.bool true) ∧ w' = w1) := aloneEntries q w1 ((cell_of_row w1 q 5 _ _ _ hq1).trans rfl)
  have CEdits : Hid (Calls Try.prog 64 #[.pointer (some ⟨q, 0, none⟩)] w1 fun e w' => e = .returned (.bool true) ∧ w' = w1) := aloneEdits q w1 ((cell_of_row w1 q 6 _ _ _ hq1).trans rfl)
  have COps : Hid (Calls Try.prog 65 #[.pointer (some ⟨q, 0, none⟩)] w1 fun e w' => e = .returned (.bool true) ∧ w' = w1) := aloneOps q w1 ((cell_of_row w1 q 7 _ _ _ hq1).trans rfl)
  have CSpans : Hid (Calls Try.prog 66 #[.pointer (some ⟨q, 0, none⟩)] w1 fun e w' => e = .returned (.bool true) ∧ w' = w1) := aloneSpans q w1 ((cell_of_row w1 q 8 _ _ _ hq1).trans rfl)
  have CSteps : Hid (Calls Try.prog 67 #[.pointer (some ⟨q, 0, none⟩)] w1 fun e w' => e = .returned (.bool true) ∧ w' = w1) := aloneSteps q w1 ((cell_of_row w1 q 9 _ _ _ hq1).trans rfl)
  have CCredits : Hid (Calls Try.prog 68 #[.pointer (some ⟨q, 0, none⟩)] w1 fun e w' => e = .returned (.bool true) ∧ w' = w1) := aloneCredits q w1 ((cell_of_row w1 q 10 _ _ _ hq1).trans rfl)
  have CRights : Hid (Calls Try.prog 69 #[.pointer (some ⟨q, 0, none⟩)] w1 fun e w' => e = .returned (.bool true) ∧ w' = w1) := aloneRights q w1 ((cell_of_row w1 q 11 _ _ _ hq1).trans rfl)
  have CUpdates : Hid (Calls Try.prog 70 #[.pointer (some ⟨q, 0, none⟩)] w1 fun e w' => e = .returned (.bool true) ∧ w' = w1) := aloneUpdates q w1 ((cell_of_row w1 q 12 _ _ _ hq1).trans rfl)
  have CNodes : Hid (Calls Try.prog 71 #[.pointer (some ⟨q, 0, none⟩)] w1 fun e w' => e = .returned (.bool true) ∧ w' = w1) := aloneNodes q w1 ((cell_of_row w1 q 13 _ _ _ hq1).trans rfl)
  have CPatches : Hid (Calls Try.prog 72 #[.pointer (some ⟨q, 0, none⟩)] w1 fun e w' => e = .returned (.bool true) ∧ w' = w1) := alonePatches q w1 ((cell_of_row w1 q 14 _ _ _ hq1).trans rfl)
  have CImages : Hid (Calls Try.prog 73 #[.pointer (some ⟨q, 0, none⟩)] w1 fun e w' => e = .returned (.bool true) ∧ w' = w1) := aloneImages q w1 ((cell_of_row w1 q 15 _ _ _ hq1).trans rfl)
  have CForks : Hid (Calls Try.prog 74 #[.pointer (some ⟨q, 0, none⟩)] w1 fun e w' => e = .returned (.bool true) ∧ w' = w1) := aloneForks q w1 ((cell_of_row w1 q 16 _ _ _ hq1).trans rfl)
  have CRows : Hid (Calls Try.prog 75 #[.pointer (some ⟨q, 0, none⟩)] w1 fun e w' => e = .returned (.bool true) ∧ w' = w1) := aloneRows q w1 ((cell_of_row w1 q 17 _ _ _ hq1).trans rfl)
  go_wp2_with fail
  refine (CTexts.out).mono ?_
  rintro e wy ⟨rfl, hwy⟩
  subst hwy
  go_wp2_with fail
  refine (CInts.out).mono ?_
  rintro e wy ⟨rfl, hwy⟩
  subst hwy
  go_wp2_with fail
  refine (CEntries.out).mono ?_
  rintro e wy ⟨rfl, hwy⟩
  subst hwy
  go_wp2_with fail
  refine (CEdits.out).mono ?_
  rintro e wy ⟨rfl, hwy⟩
  subst hwy
  go_wp2_with fail
  refine (COps.out).mono ?_
  rintro e wy ⟨rfl, hwy⟩
  subst hwy
  go_wp2_with fail
  refine (CSpans.out).mono ?_
  rintro e wy ⟨rfl, hwy⟩
  subst hwy
  go_wp2_with fail
  refine (CSteps.out).mono ?_
  rintro e wy ⟨rfl, hwy⟩
  subst hwy
  go_wp2_with fail
  refine (CCredits.out).mono ?_
  rintro e wy ⟨rfl, hwy⟩
  subst hwy
  go_wp2_with fail
  refine (CRights.out).mono ?_
  rintro e wy ⟨rfl, hwy⟩
  subst hwy
  go_wp2_with fail
  refine (CUpdates.out).mono ?_
  rintro e wy ⟨rfl, hwy⟩
  subst hwy
  go_wp2_with fail
  refine (CNodes.out).mono ?_
  rintro e wy ⟨rfl, hwy⟩
  subst hwy
  go_wp2_with fail
  refine (CPatches.out).mono ?_
  rintro e wy ⟨rfl, hwy⟩
  subst hwy
  go_wp2_with fail
  refine (CImages.out).mono ?_
  rintro e wy ⟨rfl, hwy⟩
  subst hwy
  go_wp2_with fail
  refine (CForks.out).mono ?_
  rintro e wy ⟨rfl, hwy⟩
  subst hwy
  go_wp2_with fail
  refine (CRows.out).mono ?_
  rintro e wy ⟨rfl, hwy⟩
  subst hwy
  clear HST CBytes CHashes CTexts CInts CEntries CEdits COps CSpans CSteps CCredits CRights CUpdates CNodes CPatches CImages CForks CRows
  go_wp2_with (first | (refine wpList_build_row rfl 73 rfl (bkI (.slice none 0 0)) hbBkI ?_) | (refine wpList_store_row rfl 73 (.tmp 76) (.tmp 75) rfl q (bkI (.slice none 0 0)) rfl rfl 73 (bkI (.slice (some ⟨B, 0, none⟩) N cB)) hq1 (hsBkI.trans rfl) rfl (honeI _ rfl) ?_) | fail)
  go_ret
  exact ⟨rfl, b1.trans (below_setRowY _ _ _ _ hbq), fun k hk hkq hi => (setRow_other _ _ _ _ hkq).trans (FR.out k hk hi)⟩
theorem bookI_nil (q base : Nat) (w : World) (hq : w.heap[q]? = some (.cells (bkI (.slice none 0 0)) 73 (0, 0))) (hbq : base ≤ q) :
    Calls Try.prog 30 #[.pointer (some ⟨q, 0, none⟩)] w fun e w' => e = .returned (.bool true) ∧ Below base w w' ∧ ∀ k, k < w.heap.size → k ≠ q → w'.heap[k]? = w.heap[k]? := by
  have CBytes : Hid (Calls Try.prog 58 #[.pointer (some ⟨q, 0, none⟩)] w fun e w' => e = .returned (.bool true) ∧ w' = w) := aloneBytes q w ((cell_of_row w q 0 _ _ _ hq).trans rfl)
  have CHashes : Hid (Calls Try.prog 59 #[.pointer (some ⟨q, 0, none⟩)] w fun e w' => e = .returned (.bool true) ∧ w' = w) := aloneHashes q w ((cell_of_row w q 1 _ _ _ hq).trans rfl)
  have CIds : Hid (Calls Try.prog 60 #[.pointer (some ⟨q, 0, none⟩)] w fun e w' => e = .returned (.bool true) ∧ w' = w) := aloneIds q w ((cell_of_row w q 2 _ _ _ hq).trans rfl)
  have CTexts : Hid (Calls Try.prog 61 #[.pointer (some ⟨q, 0, none⟩)] w fun e w' => e = .returned (.bool true) ∧ w' = w) := aloneTexts q w ((cell_of_row w q 3 _ _ _ hq).trans rfl)
  have CInts : Hid (Calls Try.prog 62 #[.pointer (some ⟨q, 0, none⟩)] w fun e w' => e = .returned (.bool true) ∧ w' = w) := aloneInts q w ((cell_of_row w q 4 _ _ _ hq).trans rfl)
  have CEntries : Hid (Calls Try.prog 63 #[.pointer (some ⟨q, 0, none⟩)] w fun e w' => e = .returned (.bool true) ∧ w' = w) := aloneEntries q w ((cell_of_row w q 5 _ _ _ hq).trans rfl)
  have CEdits : Hid (Calls Try.prog 64 #[.pointer (some ⟨q, 0, none⟩)] w fun e w' => e = .returned (.bool true) ∧ w' = w) := aloneEdits q w ((cell_of_row w q 6 _ _ _ hq).trans rfl)
  have COps : Hid (Calls Try.prog 65 #[.pointer (some ⟨q, 0, none⟩)] w fun e w' => e = .returned (.bool true) ∧ w' = w) := aloneOps q w ((cell_of_row w q 7 _ _ _ hq).trans rfl)
  have CSpans : Hid (Calls Try.prog 66 #[.pointer (some ⟨q, 0, none⟩)] w fun e w' => e = .returned (.bool true) ∧ w' = w) := aloneSpans q w ((cell_of_row w q 8 _ _ _ hq).trans rfl)
  have CSteps : Hid (Calls Try.prog 67 #[.pointer (some ⟨q, 0, none⟩)] w fun e w' => e = .returned (.bool true) ∧ w' = w) := aloneSteps q w ((cell_of_row w q 9 _ _ _ hq).trans rfl)
  have CCredits : Hid (Calls Try.prog 68 #[.pointer (some ⟨q, 0, none⟩)] w fun e w' => e = .returned (.bool true) ∧ w' = w) := aloneCredits q w ((cell_of_row w q 10 _ _ _ hq).trans rfl)
  have CRights : Hid (Calls Try.prog 69 #[.pointer (some ⟨q, 0, none⟩)] w fun e w' => e = .returned (.bool true) ∧ w' = w) := aloneRights q w ((cell_of_row w q 11 _ _ _ hq).trans rfl)
  have CUpdates : Hid (Calls Try.prog 70 #[.pointer (some ⟨q, 0, none⟩)] w fun e w' => e = .returned (.bool true) ∧ w' = w) := aloneUpdates q w ((cell_of_row w q 12 _ _ _ hq).trans rfl)
  have CNodes : Hid (Calls Try.prog 71 #[.pointer (some ⟨q, 0, none⟩)] w fun e w' => e = .returned (.bool true) ∧ w' = w) := aloneNodes q w ((cell_of_row w q 13 _ _ _ hq).trans rfl)
  have CPatches : Hid (Calls Try.prog 72 #[.pointer (some ⟨q, 0, none⟩)] w fun e w' => e = .returned (.bool true) ∧ w' = w) := alonePatches q w ((cell_of_row w q 14 _ _ _ hq).trans rfl)
  have CImages : Hid (Calls Try.prog 73 #[.pointer (some ⟨q, 0, none⟩)] w fun e w' => e = .returned (.bool true) ∧ w' = w) := aloneImages q w ((cell_of_row w q 15 _ _ _ hq).trans rfl)
  have CForks : Hid (Calls Try.prog 74 #[.pointer (some ⟨q, 0, none⟩)] w fun e w' => e = .returned (.bool true) ∧ w' = w) := aloneForks q w ((cell_of_row w q 16 _ _ _ hq).trans rfl)
  have CRows : Hid (Calls Try.prog 75 #[.pointer (some ⟨q, 0, none⟩)] w fun e w' => e = .returned (.bool true) ∧ w' = w) := aloneRows q w ((cell_of_row w q 17 _ _ _ hq).trans rfl)
  go_enter Try.func30, Try.ntmps30
  go_wp2_with fail
  refine (CBytes.out).mono ?_
  rintro e wy ⟨rfl, hwy⟩
  obtain rfl : w = wy := hwy.symm
  go_wp2_with fail
  refine (CHashes.out).mono ?_
  rintro e wy ⟨rfl, hwy⟩
  obtain rfl : w = wy := hwy.symm
  go_wp2_with fail
  refine (CIds.out).mono ?_
  rintro e wy ⟨rfl, hwy⟩
  obtain rfl : w = wy := hwy.symm
  go_wp2_with fail
  refine (CTexts.out).mono ?_
  rintro e wy ⟨rfl, hwy⟩
  obtain rfl : w = wy := hwy.symm
  go_wp2_with fail
  refine (CInts.out).mono ?_
  rintro e wy ⟨rfl, hwy⟩
  obtain rfl : w = wy := hwy.symm
  go_wp2_with fail
  refine (CEntries.out).mono ?_
  rintro e wy ⟨rfl, hwy⟩
  obtain rfl : w = wy := hwy.symm
  go_wp2_with fail
  refine (CEdits.out).mono ?_
  rintro e wy ⟨rfl, hwy⟩
  obtain rfl : w = wy := hwy.symm
  go_wp2_with fail
  refine (COps.out).mono ?_
  rintro e wy ⟨rfl, hwy⟩
  obtain rfl : w = wy := hwy.symm
  go_wp2_with fail
  refine (CSpans.out).mono ?_
  rintro e wy ⟨rfl, hwy⟩
  obtain rfl : w = wy := hwy.symm
  go_wp2_with fail
  refine (CSteps.out).mono ?_
  rintro e wy ⟨rfl, hwy⟩
  obtain rfl : w = wy := hwy.symm
  go_wp2_with fail
  refine (CCredits.out).mono ?_
  rintro e wy ⟨rfl, hwy⟩
  obtain rfl : w = wy := hwy.symm
  go_wp2_with fail
  refine (CRights.out).mono ?_
  rintro e wy ⟨rfl, hwy⟩
  obtain rfl : w = wy := hwy.symm
  go_wp2_with fail
  refine (CUpdates.out).mono ?_
  rintro e wy ⟨rfl, hwy⟩
  obtain rfl : w = wy := hwy.symm
  go_wp2_with fail
  refine (CNodes.out).mono ?_
  rintro e wy ⟨rfl, hwy⟩
  obtain rfl : w = wy := hwy.symm
  go_wp2_with fail
  refine (CPatches.out).mono ?_
  rintro e wy ⟨rfl, hwy⟩
  obtain rfl : w = wy := hwy.symm
  go_wp2_with fail
  refine (CImages.out).mono ?_
  rintro e wy ⟨rfl, hwy⟩
  obtain rfl : w = wy := hwy.symm
  go_wp2_with fail
  refine (CForks.out).mono ?_
  rintro e wy ⟨rfl, hwy⟩
  obtain rfl : w = wy := hwy.symm
  go_wp2_with fail
  refine (CRows.out).mono ?_
  rintro e wy ⟨rfl, hwy⟩
  obtain rfl : w = wy := hwy.symm
  clear CBytes CHashes CIds CTexts CInts CEntries CEdits COps CSpans CSteps CCredits CRights CUpdates CNodes CPatches CImages CForks CRows
  go_wp2_with (first | (refine wpList_build_row rfl 73 rfl (bkI (.slice none 0 0)) hbBkI ?_) | (refine wpList_store_row rfl 73 (.tmp 76) (.tmp 75) rfl q (bkI (.slice none 0 0)) rfl rfl 73 (bkI (.slice none 0 0)) hq (hsBkI.trans rfl) rfl (honeI _ rfl) ?_) | fail)
  go_ret
  exact ⟨rfl, below_setRowY _ _ _ _ hbq, fun k hk hkq => setRow_other _ _ _ _ hkq⟩
end Go.Proofs.Ytlejbdepoemcjaa.B
namespace Go.Proofs.Ytlejbdepoemcjaa
open Go.RowKit
set_option linter.unusedVariables false
set_option linter.unusedSimpArgs false
structure TB (bb q : Nat) (g : Nat → Nat) (w : World) (all : Value) (R : List (B.Lst × List IdK)) : Prop where
  bk : B.BkI w q bb all (R.map fun r => r.1.v)
  bq : bb ≤ q
  own : ∀ r ∈ R, OwnI w bb r.1.v r.2 ∧ r.1.n = r.2.length ∧ r.2.length ≤ 2600000000000 ∧ ∀ x ∈ r.2, x.ok
  sep : ∀ (i j : Nat) (r r' : B.Lst × List IdK) (b : Nat), R[i]? = some r → R[j]? = some r' → r.1.v.ownBlock = some b → r'.1.v.ownBlock = some b → i = j
  gq : g q = 0
  ga : ∀ b, all.ownBlock = some b → g b = 0
  gl : ∀ r ∈ R, ∀ b, r.1.v.ownBlock = some b → g b = 0
  nl : R = [] → all = .slice none 0 0
theorem own_base {w : World} {b b' e sz n : Nat} {v : Value} {xs : List Value} (h : w.ownsRow b e sz v n xs) (hb : b' ≤ b) : w.ownsRow b' e sz v n xs := by
  refine ⟨h.1, ?_⟩
  rcases h.2 with hn | ⟨g, cap, cur, e1, hbg, rest⟩
  · exact .inl hn
  · exact .inr ⟨g, cap, cur, e1, Nat.le_trans hb hbg, rest⟩
theorem OwnI.baseL {w : World} {b b' : Nat} {v : Value} {L : List IdK} (h : OwnI w b v L) (hb : b' ≤ b) : OwnI w b' v L := own_base h hb
theorem OwnI.ltL {W : World} {base : Nat} {v : Value} {L : List IdK} (h : OwnI W base v L) {j : Nat} (hj : v.ownBlock = some j) : j < W.heap.size := by
  obtain ⟨_, c, hc⟩ := h.ge j hj
  exact (Array.getElem?_eq_some_iff.1 hc).1
section
variable {bb q : Nat} {g g' : Nat → Nat} {w w' : World} {all : Value} {R : List (B.Lst × List IdK)}
theorem TB.lq (h : TB bb q g w all R) : q < w.heap.size := (Array.getElem?_eq_some_iff.1 h.bk.1).1
theorem TB.la (h : TB bb q g w all R) {b : Nat} (hb : all.ownBlock = some b) : b < w.heap.size := (World.ownsRow.lt h.bk.2.1 b hb).2
theorem TB.nq (h : TB bb q g w all R) {r : B.Lst × List IdK} (hr : r ∈ R) {b : Nat} (hb : r.1.v.ownBlock = some b) : b ≠ q ∧ all.ownBlock ≠ some b := by
  obtain ⟨_, c, hc⟩ := (h.own r hr).1.ge b hb
  refine ⟨fun e => ?_, fun e => ?_⟩
  · subst e
    have := h.bk.1
    rw [hc] at this
    injection this with this
    injection this with _ h2 _
    revert h2
    decide
  · rcases h.bk.2.1.2 with ⟨e1, _⟩ | ⟨k, cap, cur, e1, _, hg, _⟩
    · rw [e1] at e; cases e
    · rw [e1] at e
      simp [Value.ownBlock] at e
      subst e
      rw [hc] at hg
      injection hg with hg
      injection hg with _ h2 _
      revert h2
      decide
theorem TB.keep (h : TB bb q g w all R) (hk : ∀ j, j < w.heap.size → (j = q ∨ all.ownBlock = some j ∨ ∃ r ∈ R, r.1.v.ownBlock = some j) → w'.heap[j]? = w.heap[j]?) (hg : ∀ j, j < w.heap.size → g' j = g j) : TB bb q g' w' all R := by
  refine ⟨⟨(hk q h.lq (Or.inl rfl)).trans h.bk.1, B.own_sameB h.bk.2.1 fun b hb => hk b (h.la hb) (Or.inr (Or.inl hb)), h.bk.2.2⟩, h.bq, fun r hr => ?_, h.sep, (hg q h.lq).trans h.gq, fun b hb => (hg b (h.la hb)).trans (h.ga b hb), fun r hr b hb => (hg b ((h.own r hr).1.ltL hb)).trans (h.gl r hr b hb), h.nl⟩
  obtain ⟨o, rest⟩ := h.own r hr
  exact ⟨o.keep fun b hb => hk b (o.ltL hb) (Or.inr (Or.inr ⟨r, hr, hb⟩)), rest⟩
theorem TB.below (h : TB bb q g w all R) (b : Below w.heap.size w w') : TB bb q g w' all R := h.keep (fun j hj _ => b.block j hj) (fun _ _ => rfl)
end
theorem TB.take {bb q : Nat} {g : Nat → Nat} {W W' : World} {all : Value} {R : List (B.Lst × List IdK)} (tb : TB bb q g W all R) (hbb : bb ≤ W.heap.size) (gz : ∀ j, W.heap.size ≤ j → g j = 0) (hc : R.length ≤ 7600000000000) {v : Value} {L : List IdK} (b : Below W.heap.size W W') (own : OwnI W' W.heap.size v L) (okL : ∀ y ∈ L, y.ok) (hL : L.length ≤ 2600000000000) :
    Calls Try.prog 28 #[.pointer (some ⟨q, 0, none⟩), v] W' fun e w' => e = .returned (.tuple #[]) ∧ ∃ all' R', TB bb q g w' all' R' ∧ R'.length = R.length + 1 ∧ Below bb W' w' ∧ Tch (fun j => g j = 0) W' w' := by
  obtain ⟨a, k, rfl, _, _⟩ := own.open okL
  have tb' := tb.below b
  have hlen : (R.map fun r => r.1.v).length = R.length := List.length_map ..
  have own0 : OwnI W' bb (.slice a L.length k) L := own.baseL hbb
  refine (B.takeI_any q bb all _ a L.length k W' tb'.bk (by rw [hlen]; omega) tb'.bq).mono ?_
  rintro e w' ⟨he, ⟨all', bk', hall⟩, bl, fr⟩
  have new : ∀ j, (Value.slice a L.length k).ownBlock = some j → W.heap.size ≤ j ∧ j < W'.heap.size := fun j hj => ⟨(own.ge j hj).1, own.ltL hj⟩
  have tch : Tch (fun j => g j = 0) W' w' := ⟨bl.os, bl.tape, bl.output, bl.size, fun j hj hn => fr j hj (fun e => hn (by rw [e]; exact tb'.gq)) (fun e => hn (tb'.ga j e))⟩
  have nqN : ∀ j, (Value.slice a L.length k).ownBlock = some j → j ≠ q ∧ all.ownBlock ≠ some j := fun j hj => ⟨fun e => by have := tb.lq; have := (new j hj).1; omega, fun e => by have := tb.la e; have := (new j hj).1; omega⟩
  refine ⟨he, all', R ++ [(⟨a, L.length, k⟩, L)], ⟨by rw [List.map_append]; exact bk', tb'.bq, fun r hr => ?_, fun i j r r' b' h1 h2 h3 h4 => ?_, tb'.gq, fun b' hb => ?_, fun r hr b' hb => ?_, fun e => by simp at e⟩, by rw [List.length_append]; rfl, bl, tch⟩
  · rcases List.mem_append.1 hr with hr | hr
    · obtain ⟨o, rest⟩ := tb'.own r hr
      exact ⟨o.keep fun b' hb => fr b' (o.ltL hb) (tb'.nq hr hb).1 (tb'.nq hr hb).2, rest⟩
    · simp at hr
      subst hr
      exact ⟨own0.keep fun b' hb => fr b' (new b' hb).2 (nqN b' hb).1 (nqN b' hb).2, rfl, hL, okL⟩
  · have old : ∀ {i : Nat} {r : B.Lst × List IdK}, R[i]? = some r → r.1.v.ownBlock = some b' → b' < W.heap.size := fun h1 h3 => (tb.own _ (List.mem_of_getElem? h1)).1.ltL h3
    rw [List.getElem?_append] at h1 h2
    split at h1 <;> split at h2
    · exact tb.sep i j r r' b' h1 h2 h3 h4
    · next q1 q2 =>
      have e2 : r' = (⟨a, L.length, k⟩, L) := by have := List.mem_of_getElem? h2; simpa using this
      subst e2
      have := old h1 h3
      have := (new b' h4).1
      omega
    · next q1 q2 =>
      have e1 : r = (⟨a, L.length, k⟩, L) := by have := List.mem_of_getElem? h1; simpa using this
      subst e1
      have := old h2 h4
      have := (new b' h3).1
      omega
    · next q1 q2 =>
      have l1 := (List.getElem?_eq_some_iff.1 h1).1
      have l2 := (List.getElem?_eq_some_iff.1 h2).1
      simp at l1 l2
      omega
  · rcases hall with e | ⟨b2, e, h2⟩
    · rw [e] at hb; exact tb'.ga b' hb
    · rw [e] at hb
      injection hb with hb
      subst hb
      exact gz _ (Nat.le_trans b.size h2)
  · rcases List.mem_append.1 hr with hr | hr
    · exact tb'.gl r hr b' hb
    · simp at hr
      subst hr
      exact gz b' (new b' hb).1
theorem TB.alone {bb q : Nat} {g : Nat → Nat} {W : World} {all : Value} {R : List (B.Lst × List IdK)} (tb : TB bb q g W all R) (hbb : bb ≤ W.heap.size) (hc : R.length ≤ 7600000000000) :
    Calls Try.prog 30 #[.pointer (some ⟨q, 0, none⟩)] W fun e w' => e = .returned (.bool true) ∧ Below bb W w' ∧ Tch (fun j => g j = 0) W w' := by
  by_cases h0 : R = []
  · subst h0
    have hq := tb.bk.1
    rw [tb.nl rfl] at hq
    refine (B.bookI_nil q bb W hq tb.bq).mono ?_
    rintro e w' ⟨he, bl, fr⟩
    exact ⟨he, bl, ⟨bl.os, bl.tape, bl.output, bl.size, fun j hj hn => fr j hj (fun e => hn (by rw [e]; exact tb.gq))⟩⟩
  · obtain ⟨N, hN⟩ : ∃ N, R.length = N := ⟨_, rfl⟩
    have hN1 : 1 ≤ N := by
      cases R with
      | nil => exact absurd rfl h0
      | cons r R => rw [← hN]; simp
    have get : ∀ i, i < N → ∃ r, R[i]? = some r := fun i hi => ⟨_, List.getElem?_eq_getElem (by omega)⟩
    let V : Nat → B.Lst := fun i => (R[i]?.map (·.1)).getD ⟨none, 0, 0⟩
    let LL : Nat → List IdK := fun i => (R[i]?.map (·.2)).getD []
    have hV : ∀ i r, R[i]? = some r → V i = r.1 := fun i r hr => by show (R[i]?.map (·.1)).getD _ = _; rw [hr]; rfl
    have hLL : ∀ i r, R[i]? = some r → LL i = r.2 := fun i r hr => by show (R[i]?.map (·.2)).getD _ = _; rw [hr]; rfl
    have hrows : (R.map fun r => r.1.v) = (List.range N).map fun i => (V i).v := by
      refine List.ext_getElem? fun i => ?_
      rw [List.getElem?_map, List.getElem?_map]
      by_cases hi : i < N
      · obtain ⟨r, hr⟩ := get i hi
        rw [hr, List.getElem?_range hi, Option.map_some, Option.map_some, hV i r hr]
      · rw [List.getElem?_eq_none (by omega), List.getElem?_eq_none (by simp; omega)]
        rfl
    have bk := tb.bk
    rw [hrows] at bk
    refine (B.bookI_any q bb bb N all V LL W hN1 (by omega) (fun i hi => ?_) (fun i hi => ?_) (fun i hi => ?_) bk tb.bq (Nat.le_refl _) (fun i hi => ?_) (fun i j hi hj b h1 h2 => ?_)).mono ?_
    · obtain ⟨r, hr⟩ := get i hi
      rw [hV i r hr, (tb.own r (List.mem_of_getElem? hr)).2.1]
      exact (tb.own r (List.mem_of_getElem? hr)).2.2.1
    · obtain ⟨r, hr⟩ := get i hi
      rw [hV i r hr, hLL i r hr]
      exact (tb.own r (List.mem_of_getElem? hr)).2.1.symm
    · obtain ⟨r, hr⟩ := get i hi
      rw [hLL i r hr]
      exact (tb.own r (List.mem_of_getElem? hr)).2.2.2
    · obtain ⟨r, hr⟩ := get i hi
      have o := (tb.own r (List.mem_of_getElem? hr))
      rw [hV i r hr, hLL i r hr, o.2.1]
      exact o.1
    · obtain ⟨r, hr⟩ := get i hi
      obtain ⟨r', hr'⟩ := get j hj
      rw [hV i r hr] at h1
      rw [hV j r' hr'] at h2
      exact tb.sep i j r r' b hr hr' h1 h2
    · rintro e w' ⟨he, bl, fr⟩
      refine ⟨he, bl, ⟨bl.os, bl.tape, bl.output, bl.size, fun j hj hn => fr j hj (fun e => hn (by rw [e]; exact tb.gq)) (fun i hi e => hn ?_)⟩⟩
      obtain ⟨r, hr⟩ := get i hi
      rw [hV i r hr] at e
      exact tb.gl r (List.mem_of_getElem? hr) j e
end Go.Proofs.Ytlejbdepoemcjaa
namespace Go.Proofs.Ytlejbdepoemcjaa
open Go.RowKit Sq
set_option linter.unusedVariables false
set_option linter.unusedSimpArgs false
end Go.Proofs.Ytlejbdepoemcjaa
namespace Go.Proofs.Ytlejbdepoemcjaa
open Go.Shelf
end Go.Proofs.Ytlejbdepoemcjaa
