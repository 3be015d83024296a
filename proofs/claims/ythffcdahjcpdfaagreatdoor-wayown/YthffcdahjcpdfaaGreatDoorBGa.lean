import Derived.Test.YthffcdahjcpdfaaGreatDoorRows
import Derived.WalkKit
import Derived.WalkSpells
import Derived.WalkLawsBesides
import Derived.Maps.AppendAt
import Derived.Laws.OwnMore
import Derived.Below
import Derived.OwnWalk
import Derived.Deep.MidRow
namespace Go.Proofs.YthffcdahjcpdfaaGreatDoor.B
open Go.RowKit
set_option linter.unusedVariables false
set_option linter.unusedSimpArgs false

/-- n times the cells of x. -/
def rpC (n : Nat) (x : List Value) : List Value := (List.replicate n x).flatten
theorem rpC_len (n : Nat) (x : List Value) : (rpC n x).length = n * x.length := by simp [rpC]
theorem rpC_cons (n : Nat) (x : List Value) : rpC (n + 1) x = x ++ rpC n x := by simp [rpC, List.replicate_succ]
theorem rpC_succ (n : Nat) (x : List Value) : rpC n x ++ x = rpC (n + 1) x := by
  unfold rpC
  rw [List.replicate_succ', List.flatten_append]
  simp
theorem rpC_get {x : List Value} {j : Nat} (hj : j < x.length) : ∀ {n k : Nat}, k < n → (rpC n x)[k * x.length + j]? = x[j]?
  | 0, k, h => by omega
  | n + 1, 0, h => by rw [rpC_cons, Nat.zero_mul, Nat.zero_add, List.getElem?_append_left hj]
  | n + 1, k + 1, h => by
    rw [rpC_cons, List.getElem?_append_right (by rw [Nat.succ_mul]; omega), show (k + 1) * x.length + j - x.length = k * x.length + j by rw [Nat.succ_mul]; omega]
    exact rpC_get hj (by omega)
theorem rpC_pre (n m : Nat) (x : List Value) {j : Nat} (hj : j < n * x.length) : (rpC (n + m) x)[j]? = (rpC n x)[j]? := by
  have hx : 0 < x.length := by
    rcases Nat.eq_zero_or_pos x.length with h | h
    · rw [h] at hj; omega
    · exact h
  have h1 : j / x.length < n := (Nat.div_lt_iff_lt_mul hx).2 hj
  have h2 : j = j / x.length * x.length + j % x.length := by rw [Nat.mul_comm]; exact (Nat.div_add_mod j x.length).symm
  rw [h2, rpC_get (Nat.mod_lt _ hx) (by omega), rpC_get (Nat.mod_lt _ hx) h1]
/-- The first k elements are x. -/
def fillC (k : Nat) (x L : List Value) : List Value := rpC k x ++ L.drop (k * x.length)
theorem fillC_len {k : Nat} {x L : List Value} (h : k * x.length ≤ L.length) : (fillC k x L).length = L.length := by
  unfold fillC
  rw [List.length_append, rpC_len, List.length_drop]
  omega
theorem fillC_zero (x L : List Value) : fillC 0 x L = L := by simp [fillC, rpC]
theorem fillC_all {n : Nat} {x L : List Value} (h : L.length = n * x.length) : fillC n x L = rpC n x := by
  unfold fillC
  rw [← h, List.drop_length, List.append_nil]
theorem fillC_three {k : Nat} {x0 x1 x2 : Value} {L : List Value} (h : (k + 1) * 3 ≤ L.length) : (((fillC k [x0, x1, x2] L).set (3 * k) x0).set (3 * k + 1) x1).set (3 * k + 2) x2 = fillC (k + 1) [x0, x1, x2] L := by
  unfold fillC
  have hl : (rpC k [x0, x1, x2]).length = 3 * k := by rw [rpC_len]; simp; omega
  have e3 : ([x0, x1, x2] : List Value).length = 3 := rfl
  rw [e3, ← rpC_succ]
  have hd : ∃ a b c, L.drop (k * 3) = a :: b :: c :: L.drop ((k + 1) * 3) := by
    have h1 : k * 3 < L.length := by omega
    have h2 : k * 3 + 1 < L.length := by omega
    have h3 : k * 3 + 2 < L.length := by omega
    refine ⟨L[k * 3], L[k * 3 + 1], L[k * 3 + 2], ?_⟩
    rw [List.drop_eq_getElem_cons h1, List.drop_eq_getElem_cons h2, List.drop_eq_getElem_cons h3, show k * 3 + 2 + 1 = (k + 1) * 3 by omega]
  obtain ⟨a, b, c, hd⟩ := hd
  rw [hd, List.set_append_right _ _ (by omega), hl, Nat.sub_self, List.set_cons_zero, List.set_append_right _ _ (by omega), hl, show 3 * k + 1 - 3 * k = 1 by omega, List.set_cons_succ, List.set_cons_zero, List.set_append_right _ _ (by omega), hl, show 3 * k + 2 - 3 * k = 2 by omega]
  simp
/-- A list's elements are all x. -/
def RdC (w : World) (a : Option Addr) (n : Nat) (x : List Value) : Prop := n = 0 ∨ ∃ b off, a = some ⟨b, off, none⟩ ∧ ∀ j u, (rpC n x)[j]? = some u → w.cell? ⟨b, off + j, none⟩ = some u
theorem RdC.grown {w w' : World} {a : Option Addr} {n : Nat} {x : List Value} {row : Option Nat} (h : RdC w a n x) (gr : w.grownBy w' row) (hne : 0 < n → ∀ b off, a = some ⟨b, off, none⟩ → some b ≠ row) : RdC w' a n x := by
  rcases h with rfl | ⟨b, off, rfl, hc⟩
  · exact .inl rfl
  · rcases Nat.eq_zero_or_pos n with h0 | h0
    · exact .inl h0
    · exact .inr ⟨b, off, rfl, fun j u hj => gr.cell (hc j u hj) (hne h0 b off rfl)⟩
theorem RdC.below {w w' : World} {a : Option Addr} {n : Nat} {x : List Value} (h : RdC w a n x) (hb : Below w.heap.size w w') : RdC w' a n x := by
  rcases h with rfl | ⟨b, off, rfl, hc⟩
  · exact .inl rfl
  · exact .inr ⟨b, off, rfl, fun j u hj => (hb.cell (p := ⟨b, off + j, none⟩) (block_lt_of_cell (hc j u hj))).trans (hc j u hj)⟩
theorem own_rd {w : World} {base e sz : Nat} {a : Option Addr} {n c : Nat} {x : List Value} (h : w.ownsRow base e sz (.slice a n c) n (rpC n x)) : RdC w a n x := by
  have hc := fun g hg => World.ownsRow.cells h (g := g) hg
  rcases h.2 with ⟨_, hn⟩ | ⟨g, cap, cur, ev, _⟩
  · exact .inl hn
  · cases ev
    refine .inr ⟨g, 0, rfl, fun j u hj => ?_⟩
    have := hc g rfl j u hj
    rw [Addr.add_mid] at this
    exact this
theorem own_slice {w : World} {base e sz n : Nat} {v : Value} {xs : List Value} (h : w.ownsRow base e sz v n xs) : ∃ a c, v = .slice a n c := by
  rcases h.2 with ⟨rfl, rfl⟩ | ⟨g, cap, cur, rfl, _⟩
  · exact ⟨_, _, rfl⟩
  · exact ⟨_, _, rfl⟩
theorem own_below {w w' : World} {base e sz n : Nat} {v : Value} {xs : List Value} (h : w.ownsRow base e sz v n xs) (hb : Below w.heap.size w w') : w'.ownsRow base e sz v n xs :=
  World.ownsRow.kept h (row := none) ⟨hb.os, hb.tape, hb.output, hb.size, fun k hk _ => hb.block k hk⟩ (by cases hx : v.ownBlock <;> simp)
theorem own_other {w : World} {q base j e sz n : Nat} {v u : Value} {xs : List Value} (h : w.ownsRow base e sz v n xs) (hq : v.ownBlock ≠ some q) : (w.setCell ⟨q, j, none⟩ u).ownsRow base e sz v n xs := by
  refine ⟨h.1, ?_⟩
  rcases h.2 with hn | ⟨g, cap, cur, rfl, hbg, hg, rest⟩
  · exact .inl hn
  · refine .inr ⟨g, cap, cur, rfl, hbg, ?_, rest⟩
    rw [Below.heap_setCell _ _ _ _ (fun e => hq (by simp [Value.ownBlock]; exact e))]
    exact hg
theorem own_put {w : World} {base g n cap r e sz : Nat} {F : List Value} (h : w.ownsRow base e sz (.slice (some ⟨g, 0, none⟩) n cap) n F) (x : Value) (hr : r < F.length) : (w.setCell ⟨g, r, none⟩ x).ownsRow base e sz (.slice (some ⟨g, 0, none⟩) n cap) n (F.set r x) := by
  rcases h.2 with ⟨e, _⟩ | ⟨g', cap', cur, ev, hbg, hg, hnc, hcm, hcs, htake⟩
  · cases e
  · cases ev
    refine ⟨by rw [List.length_set]; exact h.1, .inr ⟨g, cap, _, rfl, hbg, heap_setCell_same w g r _ e _ hg, hnc, hcm, by simpa using hcs, ?_⟩⟩
    rw [Array.toList_setIfInBounds, List.take_set, htake]
theorem own_at {w : World} {base g n cap r e sz : Nat} {F : List Value} {u : Value} (h : w.ownsRow base e sz (.slice (some ⟨g, 0, none⟩) n cap) n F) (hr : F[r]? = some u) : w.cell? ⟨g, r, none⟩ = some u ∧ w.frozen? ⟨g, r, none⟩ = false := by
  have hc := World.ownsRow.cells h (g := g) rfl r u hr
  rw [Addr.add_mid, Nat.zero_add] at hc
  rcases h.2 with ⟨e, _⟩ | ⟨g', cap', cur, ev, hbg, hg, hnc, hcm, hcs, htake⟩
  · cases e
  · cases ev
    exact ⟨hc, frozen_of_row w g r _ _ hg⟩
/-- append of one onto an owned row: it lies where it lay, or it is new and all that was is as it was. -/
theorem run_app3 {P : Program} (w : World) (base : Nat) (t ty e : TypeId) (i : TypeInfo) (z : Value) (size bytes : Nat) (ht : P.underlying t = some (.slice e)) (hi : P.info? e = some i) (hz : i.zero = some z)
    (hsize : i.size = size) (hby : i.bytes = bytes) (hzs : z.cells.size = size) (hsz : 0 < size) (v : Value) (n : Nat) (xs : List Value) (hown : w.ownsRow base e size v n xs)
    (ad : Addr) (c : Nat) (news : List Value) (hl : news.length = 1 * size) (hnews : ∀ j u, news[j]? = some u → w.cell? (ad.add j) = some u) (h1 : ∀ u ∈ news, u.oneCell' = true)
    (h63 : n + 1 ≤ maxLen) (hbytes : (n + 1) * bytes ≤ 140737488355328) (hbase : base ≤ w.heap.size) :
    ∃ v' w', (Builtin.append_ #[t, t] ty #[v, .slice (some ad) 1 c]).run P w = .ok v' w' ∧ w'.ownsRow base e size v' (n + 1) (xs ++ news) ∧ w.grownBy w' v.ownBlock ∧
      (v'.ownBlock = v.ownBlock ∨ v'.ownBlock = some w.heap.size ∧ Below w.heap.size w w') := by
  obtain ⟨v', w', hr, own, gr, _, hblk⟩ := run_append_own_at (P := P) w base t ty e i z size bytes ht hi hz hsize hby hzs hsz v n xs hown ad 1 c news hl hnews h1 h63 hbytes hbase
  refine ⟨v', w', hr, own, gr, ?_⟩
  rcases hblk with e1 | e1
  · exact .inl e1
  · refine .inr ⟨e1, ?_⟩
    cases hv : v.ownBlock with
    | none => exact (Below.refl _ _).grown gr (Nat.le_refl _) (fun k hk => by rw [hv] at hk; cases hk)
    | some g =>
      rcases hown.2 with ⟨rfl, hn⟩ | ⟨g', cap, cur, rfl, hbg, hg, hnc, hcm, hcs, htake⟩
      · simp [Value.ownBlock] at hv
      · have hg' : g' < w.heap.size := (Array.getElem?_eq_some_iff.1 hg).1
        subst hsize hby
        by_cases hroom : n + 1 ≤ cap
        · have hr2 := run_append_room (P := P) w t ty e i ht hi g' n cap cur hg ad 1 c news (by rw [hl]) hnews h1 hroom (by rw [hl, hcs, ← Nat.add_mul]; exact Nat.mul_le_mul_right _ hroom)
          rw [hr] at hr2
          injection hr2 with e2 e3
          rw [e2] at e1
          simp [Value.ownBlock] at e1
          omega
        · have hr2 := run_append_grow (P := P) w t ty e i z ht hi hz ⟨g', 0, none⟩ n cap xs (by rw [hown.1]) (hown.cells (g := g') rfl) ad 1 c news (by rw [hl]) hnews (by omega) (by unfold maxLen at h63; omega) (growslice_fits (by omega) (by simpa using hbytes))
          rw [hr] at hr2
          injection hr2 with e2 e3
          rw [e3]
          exact (below_drewN (Below.refl _ _) 1).alloc (Nat.le_refl _) _
theorem wpList_app3 {P : Program} {ops : Array Oper} {rest : List Oper} {o : Oper} {a : Act} {w : World} {Q : Exit → Act → World → Prop} (hgd : o.guard = none) (s x : Operand) (t e : TypeId) (i : TypeInfo) (z : Value) (size bytes : Nat)
    (ht : P.underlying t = some (.slice e)) (hi : P.info? e = some i) (hz : i.zero = some z) (hsize : i.size = size) (hby : i.bytes = bytes) (hzs : z.cells.size = size) (hsz : 0 < size)
    (ho : o.op = .call { callee := .builtin .append, args := #[s, x], argTypes := #[t, t] }) (base : Nat) (v : Value) (n : Nat) (xs : List Value) (hs : a.eval s = v) (hown : w.ownsRow base e size v n xs)
    (ad : Addr) (c : Nat) (news : List Value) (hx : a.eval x = .slice (some ad) 1 c) (hl : news.length = 1 * size) (hnews : ∀ j u, news[j]? = some u → w.cell? (ad.add j) = some u) (h1 : ∀ u ∈ news, u.oneCell' = true)
    (h63 : n + 1 ≤ maxLen) (hbytes : (n + 1) * bytes ≤ 140737488355328) (hbase : base ≤ w.heap.size)
    (h : ∀ v' w', w'.ownsRow base e size v' (n + 1) (xs ++ news) → w.grownBy w' v.ownBlock → (v'.ownBlock = v.ownBlock ∨ v'.ownBlock = some w.heap.size ∧ Below w.heap.size w w') → wpList P ops Q rest (a.put o.dst v') w') : wpList P ops Q (o :: rest) a w :=
  wpList_plain hgd fun _ hK => by
    obtain ⟨v', w', hr, h2, h3, h4⟩ := run_app3 (P := P) w base t o.type e i z size bytes ht hi hz hsize hby hzs hsz v n xs hown ad c news hl hnews h1 h63 hbytes hbase
    unfold Oper.wp execOp
    simp only [ho, resolve, invoke, builtin, Sem.run_bind, Sem.run_pure, Result.andThen_ok, List.map_toArray, List.map_cons, List.map_nil, hs, hx, hr]
    exact hK _ _ (h v' w' h2 h3 h4)
/-- One append onto a list of the Book: it lies where it lay, or behind all that was; what the list held is there. -/
theorem grow_step {wa w' : World} {base W n cap m e sz : Nat} {a : Option Addr} {x : List Value} {g g' : Value} (hW : W ≤ wa.heap.size) (hx : 0 < x.length)
    (hB : RdC wa a n x) (hv : ∀ b off, 0 < n → a = some ⟨b, off, none⟩ → (Value.slice a n cap).ownBlock = some b ∧ off = 0 ∧ b < W)
    (own' : w'.ownsRow base e sz g' (n + m + 1) (rpC (n + m + 1) x)) (gr : wa.grownBy w' g.ownBlock)
    (h4 : g'.ownBlock = g.ownBlock ∨ g'.ownBlock = some wa.heap.size ∧ Below wa.heap.size wa w')
    (hg : g.ownBlock = (Value.slice a n cap).ownBlock ∨ ∃ b, g.ownBlock = some b ∧ W ≤ b) :
    RdC w' a n x ∧ (g'.ownBlock = (Value.slice a n cap).ownBlock ∨ ∃ b, g'.ownBlock = some b ∧ W ≤ b) := by
  refine ⟨?_, ?_⟩
  · rcases hB with h0 | ⟨b, off, rfl, hc⟩
    · exact .inl h0
    by_cases hn : 0 < n
    · obtain ⟨hvb, rfl, hbW⟩ := hv b off hn rfl
      rcases hg with e1 | ⟨b2, e1, hb2⟩
      · rcases h4 with e4 | ⟨e4, bl⟩
        · have eo : g'.ownBlock = some b := by rw [e4, e1, hvb]
          refine .inr ⟨b, 0, rfl, fun j u hj => ?_⟩
          have hjl : j < n * x.length := by
            have := (List.getElem?_eq_some_iff.1 hj).1
            rwa [rpC_len] at this
          have hj2 : (rpC (n + m + 1) x)[j]? = some u := by rw [Nat.add_assoc, rpC_pre n (m + 1) x hjl]; exact hj
          have := World.ownsRow.cells own' eo j u hj2
          rw [Addr.add_mid] at this
          exact this
        · exact .inr ⟨b, 0, rfl, fun j u hj => (bl.cell (p := ⟨b, 0 + j, none⟩) (block_lt_of_cell (hc j u hj))).trans (hc j u hj)⟩
      · exact .inr ⟨b, 0, rfl, fun j u hj => gr.cell (hc j u hj) (fun e3 => by rw [e1] at e3; simp at e3; omega)⟩
    · left; omega
  · rcases h4 with e4 | ⟨e4, _⟩
    · rw [e4]; exact hg
    · exact .inr ⟨_, e4, hW⟩
/-- A list that a Book keeps. -/
structure Lst where
  a : Option Addr
  n : Nat
  c : Nat
def Lst.v (l : Lst) : Value := .slice l.a l.n l.c
/-- A Book that keeps N lists of one kind. -/
structure BookAt (w : World) (q fi B cB N : Nat) (qo : Option Obj) (V : Nat → Lst) : Prop where
  cq : w.cell? ⟨q, fi, none⟩ = some (.slice (some ⟨B, 0, none⟩) N cB)
  cr : ∀ i, i < N → w.cell? ⟨B, i, none⟩ = some (V i).v
  ho : w.heap[q]? = qo
  lB : B < w.heap.size
theorem BookAt.keep {w w' : World} {q fi B cB N : Nat} {qo : Option Obj} {V : Nat → Lst} (h : BookAt w q fi B cB N qo V) (hq : w'.heap[q]? = w.heap[q]?) (hB : w'.heap[B]? = w.heap[B]?) (hs : w.heap.size ≤ w'.heap.size) : BookAt w' q fi B cB N qo V :=
  ⟨(World.cell?_of_block hq).trans h.cq, fun i hi => (World.cell?_of_block hB).trans (h.cr i hi), hq.trans h.ho, Nat.lt_of_lt_of_le h.lB hs⟩
theorem BookAt.lq {w : World} {q fi B cB N : Nat} {qo : Option Obj} {V : Nat → Lst} (h : BookAt w q fi B cB N qo V) : q < w.heap.size := block_lt_of_cell h.cq
def Tg (tg : Nat → Nat) (v : Value) (t : Nat) : Prop := ∀ b, v.ownBlock = some b → tg b = t
/-- All lists are the call's own, each in a block of its own. -/
structure Ph1 (w0 w : World) (base q fi B cB N e sz : Nat) (qo : Option Obj) (V : Nat → Lst) (tg : Nat → Nat) (F : Nat → List Value) : Prop where
  bk : BookAt w q fi B cB N qo V
  tq : tg q = 0
  tB : tg B = 0
  ow : ∀ i, i < N → w.ownsRow base e sz (V i).v (V i).n (F i) ∧ Tg tg (V i).v (i + 1)
  be : Below base w0 w
  fr : ∀ k, k < w0.heap.size → tg k = 0 → w.heap[k]? = w0.heap[k]?
def upF (F : Nat → List Value) (m : Nat) (l : List Value) : Nat → List Value := fun i => if i = m then l else F i
theorem upF_at (F : Nat → List Value) (m : Nat) (l : List Value) : upF F m l m = l := by unfold upF; rw [if_pos rfl]
theorem upF_up (F : Nat → List Value) (m : Nat) (l l' : List Value) : upF (upF F m l) m l' = upF F m l' := by
  funext i
  unfold upF
  split <;> rfl
theorem Ph1.set {w0 w : World} {base q fi B cB N e sz : Nat} {qo : Option Obj} {V : Nat → Lst} {tg : Nat → Nat} {F : Nat → List Value} (h : Ph1 w0 w base q fi B cB N e sz qo V tg F) (m r g : Nat) (x : Value) (hm : m < N) (hr : r < (F m).length) (hg : (V m).a = some ⟨g, 0, none⟩) (hbg : base ≤ g) :
    Ph1 w0 (w.setCell ⟨g, r, none⟩ x) base q fi B cB N e sz qo V tg (upF F m ((F m).set r x)) := by
  have hv : (V m).v = .slice (some ⟨g, 0, none⟩) (V m).n (V m).c := by unfold Lst.v; rw [hg]
  have tm : tg g = m + 1 := (h.ow m hm).2 g (by rw [hv]; rfl)
  have ne : ∀ b, tg b ≠ m + 1 → b ≠ g := fun b hb e => hb (by rw [e]; exact tm)
  have hset : ∀ b, b ≠ g → (w.setCell ⟨g, r, none⟩ x).heap[b]? = w.heap[b]? := fun b hb => Below.heap_setCell _ _ _ _ hb
  refine ⟨h.bk.keep (hset q (ne q (by rw [h.tq]; omega))) (hset B (ne B (by rw [h.tB]; omega))) (by simp [World.setCell]), h.tq, h.tB, fun i hi => ?_, h.be.setCell hbg _, fun k hk ht => (hset k (ne k (by rw [ht]; omega))).trans (h.fr k hk ht)⟩
  obtain ⟨o, t⟩ := h.ow i hi
  unfold upF
  by_cases e : i = m
  · subst e
    rw [if_pos rfl]
    refine ⟨?_, t⟩
    rw [hv] at o ⊢
    exact own_put o x hr
  · rw [if_neg e]
    exact ⟨own_other o (fun e2 => by have := t g e2; omega), t⟩
/-- The lists are being grown. -/
structure Ph2 (w0 w : World) (base q fi B cB N e sz te : Nat) (qo : Option Obj) (V : Nat → Lst) (X : Nat → List Value) (tz tg : Nat → Nat) (lo m : Nat) (G : Nat → Value) (all : Value) : Prop where
  bk : BookAt w q fi B cB N qo V
  tq : tg q = 0
  tB : tg B = 0
  rd : ∀ i, i < N → RdC w (V i).a (V i).n (X i) ∧ Tg tg (V i).v (i + 1) ∧ ∀ b, (V i).v.ownBlock = some b → b < w.heap.size
  ow : ∀ i, lo ≤ i → i < N → w.ownsRow base e sz (V i).v (V i).n (rpC (V i).n (X i))
  gs : ∀ i, i < m → w.ownsRow base e sz (G i) ((V i).n + 20) (rpC ((V i).n + 20) (X i)) ∧ Tg tg (G i) (i + 1)
  al : w.ownsRow base te 1 all m ((List.range m).map G) ∧ Tg tg all (N + 1)
  be : Below base w0 w
  zb : base ≤ w.heap.size
  z0 : w0.heap.size ≤ w.heap.size
  fr : ∀ k, k < w0.heap.size → tz k = 0 → tg k = 0 ∧ w.heap[k]? = w0.heap[k]?
/-- The new block's tag. -/
def tgN (tg : Nat → Nat) (z t : Nat) : Nat → Nat := fun b => if b < z then tg b else t
section
variable {w0 w w' : World} {base q fi B cB N e sz te : Nat} {qo : Option Obj} {V : Nat → Lst} {X : Nat → List Value} {tz tg : Nat → Nat} {lo m : Nat} {G : Nat → Value} {all : Value}
theorem Ph2.below (h : Ph2 w0 w base q fi B cB N e sz te qo V X tz tg lo m G all) (hb : Below w.heap.size w w') : Ph2 w0 w' base q fi B cB N e sz te qo V X tz tg lo m G all :=
  ⟨h.bk.keep (hb.block q h.bk.lq) (hb.block B h.bk.lB) hb.size, h.tq, h.tB, fun i hi => ⟨(h.rd i hi).1.below hb, (h.rd i hi).2.1, fun b e => Nat.lt_of_lt_of_le ((h.rd i hi).2.2 b e) hb.size⟩,
    fun i h1 h2 => own_below (h.ow i h1 h2) hb, fun i hi => ⟨own_below (h.gs i hi).1 hb, (h.gs i hi).2⟩, ⟨own_below h.al.1 hb, h.al.2⟩, h.be.trans (hb.mono h.zb), Nat.le_trans h.zb hb.size, Nat.le_trans h.z0 hb.size, fun k hk ht => ⟨(h.fr k hk ht).1, (hb.block k (Nat.lt_of_lt_of_le hk h.z0)).trans (h.fr k hk ht).2⟩⟩
theorem Tg.new {v : Value} {t : Nat} (z t' : Nat) (h : Tg tg v t) (hl : ∀ b, v.ownBlock = some b → b < z) : Tg (tgN tg z t') v t := fun b e => by
  unfold tgN
  rw [if_pos (hl b e)]
  exact h b e
/-- One list is grown: all others stay. -/
theorem Ph2.grow (h : Ph2 w0 w base q fi B cB N e sz te qo V X tz tg lo m G all) (t : Nat) (v v' : Value) (h1 : 1 ≤ t) (gr : w.grownBy w' v.ownBlock) (ht : Tg tg v t) (hv : ∀ b, v.ownBlock = some b → base ≤ b ∧ b < w.heap.size) (hblk : v'.ownBlock = v.ownBlock ∨ v'.ownBlock = some w.heap.size)
    (hrd : ∀ i, i + 1 = t → i < N → RdC w' (V i).a (V i).n (X i)) (how : ∀ i, lo ≤ i → i < N → i + 1 ≠ t) (hgs : ∀ i, i < m → i + 1 ≠ t) (hal : N + 1 ≠ t) : Ph2 w0 w' base q fi B cB N e sz te qo V X tz (tgN tg w.heap.size t) lo m G all ∧ Tg (tgN tg w.heap.size t) v' t := by
  have ne : ∀ b, tg b ≠ t → some b ≠ v.ownBlock := fun b hb e => hb (ht b e.symm)
  have kp : ∀ {e : TypeId} {sz n : Nat} {u : Value} {xs : List Value} {s : Nat}, w.ownsRow base e sz u n xs → Tg tg u s → s ≠ t → w'.ownsRow base e sz u n xs := fun {e sz n u xs s} o tu hs => World.ownsRow.kept o gr (by
    cases hx : u.ownBlock with
    | none => exact .inl rfl
    | some b => exact .inr (fun e => by have := tu b hx; have := ht b e.symm; omega))
  have lt : ∀ {e : TypeId} {sz n : Nat} {u : Value} {xs : List Value}, w.ownsRow base e sz u n xs → ∀ b, u.ownBlock = some b → b < w.heap.size := fun o b e => (World.ownsRow.lt o b e).2
  refine ⟨⟨h.bk.keep (gr.block q h.bk.lq (ne q (by rw [h.tq]; omega))) (gr.block B h.bk.lB (ne B (by rw [h.tB]; omega))) gr.size, ?_, ?_, fun i hi => ?_, fun i h1 h2 => kp (h.ow i h1 h2) (h.rd i h2).2.1 (how i h1 h2), fun i hi => ⟨kp (h.gs i hi).1 (h.gs i hi).2 (hgs i hi), (h.gs i hi).2.new _ _ (lt (h.gs i hi).1)⟩, ⟨kp h.al.1 h.al.2 hal, h.al.2.new _ _ (lt h.al.1)⟩, h.be.grown gr h.zb (fun b e => (hv b e).1), Nat.le_trans h.zb gr.size, Nat.le_trans h.z0 gr.size, fun k hk ht0 => (by
    have hkz := Nat.lt_of_lt_of_le hk h.z0
    obtain ⟨f1, f2⟩ := h.fr k hk ht0
    refine ⟨?_, (gr.block k hkz (ne k (by rw [f1]; omega))).trans f2⟩
    unfold tgN
    rw [if_pos hkz]
    exact f1)⟩, fun b e => ?_⟩
  · unfold tgN; rw [if_pos h.bk.lq]; exact h.tq
  · unfold tgN; rw [if_pos h.bk.lB]; exact h.tB
  · obtain ⟨r1, r2, r3⟩ := h.rd i hi
    refine ⟨?_, r2.new _ _ r3, fun b e => Nat.lt_of_lt_of_le (r3 b e) gr.size⟩
    by_cases e : i + 1 = t
    · exact hrd i e hi
    · exact r1.grown gr (fun _ b off ea e2 => by
        have : (V i).v.ownBlock = some b := by unfold Lst.v; rw [ea]; rfl
        have := r2 b this
        have := ht b e2.symm
        omega)
  · unfold tgN
    rcases hblk with e2 | e2
    · rw [e2] at e
      rw [if_pos (hv b e).2]
      exact ht b e
    · rw [e2] at e
      cases e
      rw [if_neg (by omega)]
theorem Ph2.done (h : Ph2 w0 w base q fi B cB N e sz te qo V X tz tg (m + 1) m G all) (hm : m < N) (g all' : Value) (og : w.ownsRow base e sz g ((V m).n + 20) (rpC ((V m).n + 20) (X m))) (hg : Tg tg g (m + 1)) (gr : w.grownBy w' all.ownBlock) (hblk : all'.ownBlock = all.ownBlock ∨ all'.ownBlock = some w.heap.size)
    (rows : w'.ownsRow base te 1 all' (m + 1) ((List.range m).map G ++ [g])) : ∃ tg', Ph2 w0 w' base q fi B cB N e sz te qo V X tz tg' (m + 1) (m + 1) (fun i => if i = m then g else G i) all' := by
  have ht := h.al.2
  have hv : ∀ b, all.ownBlock = some b → base ≤ b ∧ b < w.heap.size := fun b e => World.ownsRow.lt h.al.1 b e
  have ne : ∀ b, tg b ≠ N + 1 → some b ≠ all.ownBlock := fun b hb e => hb (ht b e.symm)
  have kp : ∀ {e : TypeId} {sz n : Nat} {u : Value} {xs : List Value} {s : Nat}, w.ownsRow base e sz u n xs → Tg tg u s → s ≠ N + 1 → w'.ownsRow base e sz u n xs := fun {e sz n u xs s} o tu hs => World.ownsRow.kept o gr (by
    cases hx : u.ownBlock with
    | none => exact .inl rfl
    | some b => exact .inr (fun e => by have := tu b hx; have := ht b e.symm; omega))
  have lt : ∀ {e : TypeId} {sz n : Nat} {u : Value} {xs : List Value}, w.ownsRow base e sz u n xs → ∀ b, u.ownBlock = some b → b < w.heap.size := fun o b e => (World.ownsRow.lt o b e).2
  refine ⟨tgN tg w.heap.size (N + 1), ⟨h.bk.keep (gr.block q h.bk.lq (ne q (by rw [h.tq]; omega))) (gr.block B h.bk.lB (ne B (by rw [h.tB]; omega))) gr.size, ?_, ?_, fun i hi => ?_, fun i h1 h2 => kp (h.ow i h1 h2) (h.rd i h2).2.1 (by omega), fun i hi => ?_, ⟨?_, fun b e => ?_⟩, h.be.grown gr h.zb (fun b e => (hv b e).1), Nat.le_trans h.zb gr.size, Nat.le_trans h.z0 gr.size, fun k hk ht0 => (by
    have hkz := Nat.lt_of_lt_of_le hk h.z0
    obtain ⟨f1, f2⟩ := h.fr k hk ht0
    refine ⟨?_, (gr.block k hkz (ne k (by rw [f1]; omega))).trans f2⟩
    unfold tgN
    rw [if_pos hkz]
    exact f1)⟩⟩
  · unfold tgN; rw [if_pos h.bk.lq]; exact h.tq
  · unfold tgN; rw [if_pos h.bk.lB]; exact h.tB
  · obtain ⟨r1, r2, r3⟩ := h.rd i hi
    refine ⟨r1.grown gr (fun _ b off ea e2 => ?_), r2.new _ _ r3, fun b e => Nat.lt_of_lt_of_le (r3 b e) gr.size⟩
    have : (V i).v.ownBlock = some b := by unfold Lst.v; rw [ea]; rfl
    have := r2 b this
    have := ht b e2.symm
    omega
  · show w'.ownsRow base e sz (if i = m then g else G i) _ _ ∧ Tg _ (if i = m then g else G i) _
    by_cases e : i = m
    · subst e
      rw [if_pos rfl]
      exact ⟨kp og hg (by omega), hg.new _ _ (lt og)⟩
    · rw [if_neg e]
      have hi2 : i < m := by omega
      exact ⟨kp (h.gs i hi2).1 (h.gs i hi2).2 (by omega), (h.gs i hi2).2.new _ _ (lt (h.gs i hi2).1)⟩
  · have : (List.range (m + 1)).map (fun i => if i = m then g else G i) = (List.range m).map G ++ [g] := by
      rw [List.range_succ, List.map_append]
      congr 1
      · apply List.map_congr_left
        intro i hi
        rw [if_neg (by have := List.mem_range.1 hi; omega)]
      · simp
    rw [this]
    exact rows
  · unfold tgN
    rcases hblk with e2 | e2
    · rw [e2] at e
      rw [if_pos (hv b e).2]
      exact ht b e
    · rw [e2] at e
      cases e
      rw [if_neg (by omega)]
theorem Ph2.weak (h : Ph2 w0 w base q fi B cB N e sz te qo V X tz tg lo m G all) (lo' : Nat) (hl : lo ≤ lo') : Ph2 w0 w base q fi B cB N e sz te qo V X tz tg lo' m G all :=
  ⟨h.bk, h.tq, h.tB, h.rd, fun i h1 h2 => h.ow i (by omega) h2, h.gs, h.al, h.be, h.zb, h.z0, h.fr⟩
/-- The first m lists are marked. -/
def mF (V : Nat → Lst) (X L : Nat → List Value) (m : Nat) : Nat → List Value := fun i => if i < m then rpC (V i).n (X i) else L i
theorem mF_start (V : Nat → Lst) (X L : Nat → List Value) (m : Nat) : upF (mF V X L m) m (fillC 0 (X m) (L m)) = mF V X L m := by
  funext i
  unfold upF mF
  by_cases e : i = m
  · subst e; rw [if_pos rfl, fillC_zero, if_neg (by omega)]
  · rw [if_neg e]
theorem mF_end (V : Nat → Lst) (X L : Nat → List Value) (m : Nat) (h : (L m).length = (V m).n * (X m).length) : upF (mF V X L m) m (fillC (V m).n (X m) (L m)) = mF V X L (m + 1) := by
  funext i
  unfold upF mF
  by_cases e : i = m
  · subst e; rw [if_pos rfl, fillC_all h, if_pos (by omega)]
  · rw [if_neg e]
    by_cases e2 : i < m
    · rw [if_pos e2, if_pos (by omega)]
    · rw [if_neg e2, if_neg (by omega)]
theorem ph2_start {L : Nat → List Value} (h : Ph1 w0 w base q fi B cB N e sz qo V tg (mF V X L N)) (hb : base ≤ w.heap.size) (hz0 : w0.heap.size ≤ w.heap.size) : Ph2 w0 w base q fi B cB N e sz te qo V X tg tg 0 0 (fun _ => .slice none 0 0) (.slice none 0 0) := by
  have key : ∀ i, i < N → w.ownsRow base e sz (V i).v (V i).n (rpC (V i).n (X i)) := fun i hi => by
    have := (h.ow i hi).1
    unfold mF at this
    rwa [if_pos hi] at this
  exact ⟨h.bk, h.tq, h.tB, fun i hi => ⟨own_rd (key i hi), (h.ow i hi).2, fun b e => (World.ownsRow.lt (key i hi) b e).2⟩, fun i _ hi => key i hi, fun i hi => by omega, ⟨World.ownsRow_nil _ _ _ _, fun b e => by cases e⟩, h.be, hb, hz0, fun k hk ht => ⟨ht, h.fr k hk ht⟩⟩
/-- A list while it is grown. -/
def Gr (w : World) (base e sz W : Nat) (tg : Nat → Nat) (x : List Value) (m n0 k0 k : Nat) (a0 : Option Addr) (g : Value) : Prop :=
  w.ownsRow base e sz g (n0 + k) (rpC (n0 + k) x) ∧ Tg tg g (m + 1) ∧ (g.ownBlock = (Value.slice a0 n0 k0).ownBlock ∨ ∃ b, g.ownBlock = some b ∧ W ≤ b) ∧ W ≤ w.heap.size
/-- Tags of N lists that lie in blocks of their own. -/
noncomputable def tgOf (N : Nat) (V : Nat → Lst) (b : Nat) : Nat := @dite _ (∃ i, i < N ∧ (V i).v.ownBlock = some b) (Classical.propDecidable _) (fun h => Classical.choose h + 1) (fun _ => 0)
theorem tgOf_own (sep : ∀ i j, i < N → j < N → ∀ b, (V i).v.ownBlock = some b → (V j).v.ownBlock = some b → i = j) (i : Nat) (hi : i < N) : Tg (tgOf N V) (V i).v (i + 1) := fun b e => by
  have hx : ∃ i, i < N ∧ (V i).v.ownBlock = some b := ⟨i, hi, e⟩
  unfold tgOf
  rw [dif_pos hx]
  have hs := Classical.choose_spec hx
  rw [sep _ i hs.1 hi b hs.2 e]
theorem tgOf_no (b : Nat) (h : ∀ i, i < N → (V i).v.ownBlock ≠ some b) : tgOf N V b = 0 := by
  unfold tgOf
  rw [dif_neg]
  rintro ⟨i, hi, e⟩
  exact h i hi e
end
end Go.Proofs.YthffcdahjcpdfaaGreatDoor.B
