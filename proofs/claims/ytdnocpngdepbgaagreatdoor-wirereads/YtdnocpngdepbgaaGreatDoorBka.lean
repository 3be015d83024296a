import Derived.Test.YtdnocpngdepbgaaGreatDoorKWa
namespace Go.Proofs.YtdnocpngdepbgaaGreatDoor.K
open Go.RowKit
set_option linter.unusedVariables false
set_option linter.unusedSimpArgs false

theorem own_set {w : World} {base g n cap r : Nat} {F : List UInt8} (h : OwnB w base (.slice (some ⟨g, 0, none⟩) n cap) F) (x : UInt8) (hr : r < F.length) : OwnB (w.setCell ⟨g, r, none⟩ (.int .u8 (x.toNat : Int))) base (.slice (some ⟨g, 0, none⟩) n cap) (F.set r x) := by
  rcases h.2 with ⟨e, _⟩ | ⟨g', cap', cur, e, hbg, hg, hnc, hcm, hcs, htake⟩
  · cases e
  · cases e
    refine ⟨by rw [byC_len, List.length_set]; omega, .inr ⟨g, cap, _, by rw [List.length_set], hbg, heap_setCell_same w g r _ 5 _ hg, by rw [List.length_set]; exact hnc, hcm, by simpa using hcs, ?_⟩⟩
    rw [List.length_set, Array.toList_setIfInBounds, List.take_set, htake]
    simp [byC, List.map_set]
theorem own_cell {w : World} {base g n cap r : Nat} {F : List UInt8} (h : OwnB w base (.slice (some ⟨g, 0, none⟩) n cap) F) (hr : r < F.length) : w.cell? ⟨g, r, none⟩ = some (.int .u8 (at8 F r)) ∧ w.frozen? ⟨g, r, none⟩ = false := by
  rcases h.2 with ⟨e, _⟩ | ⟨g', cap', cur, e, hbg, hg, hnc, hcm, hcs, htake⟩
  · cases e
  · cases e
    refine ⟨?_, frozen_of_row w g r _ _ hg⟩
    rw [cell_of_row w g r cur 5 (0, 0) hg]
    have e : (byC F)[r]? = some (.int .u8 (at8 F r)) := by simp [byC, at8, List.getElem?_eq_getElem hr]
    rw [← htake, List.getElem?_take] at e
    split at e
    · simpa using e
    · cases e

/-- append onto an owned row: it lies where it lay, or it is new and all that was is as it was. -/
theorem run_app3 (w : World) (base : Nat) (ty : TypeId) (v : Value) (L : List UInt8) (ad : Addr) (M : List UInt8) (c : Nat) (hown : OwnB w base v L) (hb : Byt w (some ad) M)
    (h : L.length + M.length ≤ 140737488355328) (hbase : base ≤ w.heap.size) (hM : 0 < M.length) :
    ∃ v' w', (Builtin.append_ #[25, 25] ty #[v, .slice (some ad) M.length c]).run Tryz.prog w = .ok v' w' ∧ OwnB w' base v' (L ++ M) ∧ w.grownBy w' v.ownBlock ∧
      (v'.ownBlock = v.ownBlock ∨ v'.ownBlock = some w.heap.size ∧ Below w.heap.size w w') := by
  obtain ⟨v', w', hr, own, gr, hblk⟩ := run_app2 w base ty v L (some ad) M c hown hb h hbase
  refine ⟨v', w', hr, own, gr, ?_⟩
  rcases hblk with e | e
  · exact .inl e
  · refine .inr ⟨e, ?_⟩
    cases hv : v.ownBlock with
    | none => exact (Below.refl _ _).grown gr (Nat.le_refl _) (fun k hk => by rw [hv] at hk; cases hk)
    | some g =>
      obtain ⟨i, hi, hz, hs, hby⟩ := info5'
      have hnews : ∀ j u, (byC M)[j]? = some u → w.cell? (ad.add j) = some u := fun j u hj => by
        obtain ⟨h1, rfl⟩ := byC_get _ j u hj
        rcases hb with rfl | ⟨b, off, e2, hc⟩
        · simp at h1
        · cases e2
          rw [Addr.add_mid]
          exact hc j h1
      rcases hown.2 with ⟨rfl, hn⟩ | ⟨g', cap, cur, rfl, hbg, hg, hnc, hcm, hcs, htake⟩
      · simp [Value.ownBlock] at hv
      · have hg' : g' < w.heap.size := (Array.getElem?_eq_some_iff.1 hg).1
        by_cases hroom : L.length + M.length ≤ cap
        · have hr2 := run_append_room (P := Tryz.prog) w 25 ty 5 i Tryz.underlying25 hi g' L.length cap cur hg ad M.length c (byC M) (by rw [byC_len, hs]; omega) hnews (byC_one _) hroom (by rw [byC_len, hs, hcs]; omega)
          rw [hr] at hr2
          injection hr2 with e1 e2
          rw [e1] at e
          simp [Value.ownBlock] at e
          omega
        · have hr2 := run_append_grow (P := Tryz.prog) w 25 ty 5 i (.int .u8 0) Tryz.underlying25 hi hz ⟨g', 0, none⟩ L.length cap (byC L) (by rw [byC_len, hs]; omega) (hown.cells (g := g') rfl) ad M.length c (byC M) (by rw [byC_len, hs]; omega) hnews (by omega) (by omega) (growslice_fits (by omega) (by rw [hby]; omega))
          rw [hr] at hr2
          injection hr2 with e1 e2
          rw [e2]
          exact (below_drewN (Below.refl _ _) 1).alloc (Nat.le_refl _) _
theorem wpList_app3 {ops : Array Oper} {rest : List Oper} {o : Oper} {a : Act} {w : World} {Q : Exit → Act → World → Prop} (hgd : o.guard = none) (s x : Operand)
    (ho : o.op = .call { callee := .builtin .append, args := #[s, x], argTypes := #[25, 25] }) (base : Nat) (v : Value) (L : List UInt8) (hs : a.eval s = v) (hown : OwnB w base v L)
    (ad : Addr) (m c : Nat) (M : List UInt8) (hx : a.eval x = .slice (some ad) m c) (hm : M.length = m) (hb : Byt w (some ad) M) (hlen : L.length + M.length ≤ 140737488355328) (hbase : base ≤ w.heap.size) (hM : 0 < M.length)
    (h : ∀ v' w', OwnB w' base v' (L ++ M) → w.grownBy w' v.ownBlock → (v'.ownBlock = v.ownBlock ∨ v'.ownBlock = some w.heap.size ∧ Below w.heap.size w w') → wpList Tryz.prog ops Q rest (a.put o.dst v') w') : wpList Tryz.prog ops Q (o :: rest) a w :=
  wpList_plain hgd fun _ hK => by
    subst hm
    obtain ⟨v', w', hr, h2, h3, h4⟩ := run_app3 w base o.type v L ad M c hown hb hlen hbase hM
    unfold Oper.wp execOp
    simp only [ho, resolve, invoke, builtin, Sem.run_bind, Sem.run_pure, Result.andThen_ok, List.map_toArray, List.map_cons, List.map_nil, hs, hx, hr]
    exact hK _ _ (h v' w' h2 h3 h4)
def fill (k : Nat) (x : UInt8) (L : List UInt8) : List UInt8 := List.replicate k x ++ L.drop k
theorem fill_len (k : Nat) (x : UInt8) (L : List UInt8) (h : k ≤ L.length) : (fill k x L).length = L.length := by simp [fill]; omega
theorem fill_zero (x : UInt8) (L : List UInt8) : fill 0 x L = L := by simp [fill]
theorem fill_all (x : UInt8) (L : List UInt8) : fill L.length x L = List.replicate L.length x := by simp [fill]
theorem fill_succ (k : Nat) (x : UInt8) (L : List UInt8) (h : k < L.length) : (fill k x L).set k x = fill (k + 1) x L := by
  unfold fill
  rw [List.set_append_right _ _ (by simp), List.length_replicate, Nat.sub_self, List.drop_eq_getElem_cons h, List.set_cons_zero, List.replicate_succ', List.append_assoc]
  rfl
theorem byt_grown {w w' : World} {a : Option Addr} {l : List UInt8} {row : Option Nat} (h : Byt w a l) (gr : w.grownBy w' row) (hne : 0 < l.length → ∀ b off, a = some ⟨b, off, none⟩ → some b ≠ row) : Byt w' a l := by
  rcases h with rfl | ⟨b, off, rfl, hc⟩
  · exact .inl rfl
  · exact .inr ⟨b, off, rfl, fun j hj => gr.cell (hc j hj) (hne (by omega) b off rfl)⟩
theorem infoSl : ∃ i, Tryz.prog.info? 25 = some i ∧ i.zero = some (.slice none 0 0) ∧ i.size = 1 ∧ i.bytes = 24 := by
  have h : (Tryz.prog.info? 25).map (fun i => (i.zero, i.size, i.bytes)) = some (some (.slice none 0 0), 1, 24) := by kernel_rfl
  obtain ⟨i, h1, h2, h3, h4⟩ := info_parts h
  exact ⟨i, h1, h2, h3, h4⟩
theorem wpList_appS {ops : Array Oper} {rest : List Oper} {o : Oper} {a : Act} {w : World} {Q : Exit → Act → World → Prop} (hgd : o.guard = none) (s x : Operand)
    (ho : o.op = .call { callee := .builtin .append, args := #[s, x], argTypes := #[47, 47] }) (base : Nat) (v : Value) (n : Nat) (rows : List Value) (hs : a.eval s = v) (hown : w.ownsRow base 25 1 v n rows)
    (ad : Addr) (u : Value) (hx : a.eval x = .slice (some ad) 1 1) (hu : w.cell? ad = some u) (hu1 : u.oneCell' = true) (hn : n ≤ 4398046510976) (hbase : base ≤ w.heap.size)
    (h : ∀ v' w', w'.ownsRow base 25 1 v' (n + 1) (rows ++ [u]) → w.grownBy w' v.ownBlock → (v'.ownBlock = v.ownBlock ∨ v'.ownBlock = some w.heap.size) → wpList Tryz.prog ops Q rest (a.put o.dst v') w') : wpList Tryz.prog ops Q (o :: rest) a w :=
  wpList_plain hgd fun _ hK => by
    obtain ⟨i, hi, hz, hsz, hby⟩ := infoSl
    obtain ⟨v', w', hr, h2, h3, _, h5⟩ := run_append_own_at (P := Tryz.prog) w base 47 o.type 25 i (.slice none 0 0) 1 24 Tryz.underlying47 hi hz hsz hby rfl (by decide) v n rows hown ad 1 1 [u] rfl (fun j z hz => by
      cases j with
      | zero => simp at hz; subst hz; simpa [Addr.add] using hu
      | succ j => simp at hz) (by simpa using hu1) (by unfold maxLen; omega) (by omega) hbase
    unfold Oper.wp execOp
    simp only [ho, resolve, invoke, builtin, Sem.run_bind, Sem.run_pure, Result.andThen_ok, List.map_toArray, List.map_cons, List.map_nil, hs, hx, hr]
    exact hK _ _ (h v' w' h2 h3 h5)
/-- One append onto a list of the Book: it lies where it lay, or behind all that was; what the list held is there. -/
theorem grow_step {wa w' : World} {base W n cap m : Nat} {a : Option Addr} {x : UInt8} {g g' : Value} (hW : W ≤ wa.heap.size)
    (hB : Byt wa a (List.replicate n x)) (hv : ∀ b off, 0 < n → a = some ⟨b, off, none⟩ → (Value.slice a n cap).ownBlock = some b ∧ off = 0 ∧ b < W)
    (own' : OwnB w' base g' (List.replicate (n + m) x ++ [x])) (gr : wa.grownBy w' g.ownBlock)
    (h4 : g'.ownBlock = g.ownBlock ∨ g'.ownBlock = some wa.heap.size ∧ Below wa.heap.size wa w')
    (hg : g.ownBlock = (Value.slice a n cap).ownBlock ∨ ∃ b, g.ownBlock = some b ∧ W ≤ b) :
    Byt w' a (List.replicate n x) ∧ (g'.ownBlock = (Value.slice a n cap).ownBlock ∨ ∃ b, g'.ownBlock = some b ∧ W ≤ b) := by
  refine ⟨?_, ?_⟩
  · rcases hB with h0 | ⟨b, off, rfl, hc⟩
    · exact .inl h0
    by_cases hn : 0 < n
    · obtain ⟨hvb, rfl, hbW⟩ := hv b off hn rfl
      rcases hg with e | ⟨b2, e, hb2⟩
      · rcases h4 with e4 | ⟨e4, bl⟩
        · have eo : g'.ownBlock = some b := by rw [e4, e, hvb]
          obtain ⟨gb, gc, rfl, _, hcl, _, _⟩ := own'.open1 (by simp)
          simp [Value.ownBlock] at eo
          subst eo
          refine .inr ⟨gb, 0, rfl, fun j hj => ?_⟩
          have hjn : j < n := by simpa using hj
          rw [Nat.zero_add, hcl j (by simp; omega)]
          congr 2
          simp only [at8, List.getD_eq_getElem?_getD]
          rw [List.getElem?_append_left (by simp; omega), List.getElem?_replicate, List.getElem?_replicate, if_pos (by omega), if_pos hjn]
        · exact .inr ⟨b, 0, rfl, fun j hj => (bl.cell (p := ⟨b, 0 + j, none⟩) (block_lt_of_cell (hc j hj))).trans (hc j hj)⟩
      · exact .inr ⟨b, 0, rfl, fun j hj => gr.cell (hc j hj) (fun e3 => by rw [e] at e3; simp at e3; omega)⟩
    · left; simp; omega
  · rcases h4 with e4 | ⟨e4, _⟩
    · rw [e4]; exact hg
    · exact .inr ⟨_, e4, hW⟩
def rp (n : Nat) (x : UInt8) : List UInt8 := List.replicate n x
theorem rp_len (n : Nat) (x : UInt8) : (rp n x).length = n := by simp [rp]
theorem rp_succ (n : Nat) (x : UInt8) : rp n x ++ [x] = rp (n + 1) x := by simp [rp, List.replicate_succ']
theorem at8_rp (n : Nat) (x : UInt8) (k : Nat) (h : k < n) : at8 (rp n x) k = (x.toNat : Int) := by simp [at8, rp, h]

/-- A list that a Book keeps. -/
structure Lst where
  a : Option Addr
  n : Nat
  c : Nat
def Lst.v (l : Lst) : Value := .slice l.a l.n l.c
def mrk (i : Nat) : UInt8 := UInt8.ofNat (48 + i)
/-- A Book that keeps N lists of bytes. -/
structure BookAt (w : World) (q B cB N : Nat) (qo : Option Obj) (V : Nat → Lst) : Prop where
  cq : w.cell? ⟨q, 0, none⟩ = some (.slice (some ⟨B, 0, none⟩) N cB)
  cr : ∀ i, i < N → w.cell? ⟨B, i, none⟩ = some (V i).v
  ho : w.heap[q]? = qo
  lB : B < w.heap.size
theorem BookAt.keep {w w' : World} {q B cB N : Nat} {qo : Option Obj} {V : Nat → Lst} (h : BookAt w q B cB N qo V) (hq : w'.heap[q]? = w.heap[q]?) (hB : w'.heap[B]? = w.heap[B]?) (hs : w.heap.size ≤ w'.heap.size) : BookAt w' q B cB N qo V :=
  ⟨(World.cell?_of_block hq).trans h.cq, fun i hi => (World.cell?_of_block hB).trans (h.cr i hi), hq.trans h.ho, Nat.lt_of_lt_of_le h.lB hs⟩
theorem BookAt.lq {w : World} {q B cB N : Nat} {qo : Option Obj} {V : Nat → Lst} (h : BookAt w q B cB N qo V) : q < w.heap.size := block_lt_of_cell h.cq
def Tg (tg : Nat → Nat) (v : Value) (t : Nat) : Prop := ∀ b, v.ownBlock = some b → tg b = t
/-- All lists are the call's own, each in a block of its own. -/
structure Ph1 (w0 w : World) (base q B cB N : Nat) (qo : Option Obj) (V : Nat → Lst) (tg : Nat → Nat) (F : Nat → List UInt8) : Prop where
  bk : BookAt w q B cB N qo V
  tq : tg q = 0
  tB : tg B = 0
  ow : ∀ i, i < N → OwnB w base (V i).v (F i) ∧ Tg tg (V i).v (i + 1) ∧ (F i).length = (V i).n
  be : Below base w0 w
  fr : ∀ k, k < w0.heap.size → tg k = 0 → w.heap[k]? = w0.heap[k]?
def upF (F : Nat → List UInt8) (m : Nat) (l : List UInt8) : Nat → List UInt8 := fun i => if i = m then l else F i
theorem Ph1.set {w0 w : World} {base q B cB N : Nat} {qo : Option Obj} {V : Nat → Lst} {tg : Nat → Nat} {F : Nat → List UInt8} (h : Ph1 w0 w base q B cB N qo V tg F) (m k g : Nat) (x : UInt8) (hm : m < N) (hk : k < (F m).length) (hg : (V m).a = some ⟨g, 0, none⟩) (hbg : base ≤ g) :
    Ph1 w0 (w.setCell ⟨g, k, none⟩ (.int .u8 (x.toNat : Int))) base q B cB N qo V tg (upF F m ((F m).set k x)) := by
  have hv : (V m).v = .slice (some ⟨g, 0, none⟩) (V m).n (V m).c := by unfold Lst.v; rw [hg]
  have tm : tg g = m + 1 := (h.ow m hm).2.1 g (by rw [hv]; rfl)
  have ne : ∀ b, tg b ≠ m + 1 → b ≠ g := fun b hb e => hb (by rw [e]; exact tm)
  have hset : ∀ b, b ≠ g → (w.setCell ⟨g, k, none⟩ (.int .u8 (x.toNat : Int))).heap[b]? = w.heap[b]? := fun b hb => Below.heap_setCell _ _ _ _ hb
  refine ⟨h.bk.keep (hset q (ne q (by rw [h.tq]; omega))) (hset B (ne B (by rw [h.tB]; omega))) (by simp [World.setCell]), h.tq, h.tB, fun i hi => ?_, h.be.setCell hbg _, fun k hk ht => (hset k (ne k (by rw [ht]; omega))).trans (h.fr k hk ht)⟩
  obtain ⟨o, t, l⟩ := h.ow i hi
  unfold upF
  by_cases e : i = m
  · subst e
    rw [if_pos rfl]
    refine ⟨?_, t, by rw [List.length_set]; exact l⟩
    rw [hv] at o ⊢
    exact own_set o x hk
  · rw [if_neg e]
    exact ⟨own_setCell o (fun e2 => by have := t g e2; omega), t, l⟩
/-- The lists are being grown. -/
structure Ph2 (w0 w : World) (base q B cB N : Nat) (qo : Option Obj) (V : Nat → Lst) (tz tg : Nat → Nat) (lo m : Nat) (G : Nat → Value) (all : Value) : Prop where
  bk : BookAt w q B cB N qo V
  tq : tg q = 0
  tB : tg B = 0
  rd : ∀ i, i < N → Byt w (V i).a (rp (V i).n (mrk i)) ∧ Tg tg (V i).v (i + 1) ∧ ∀ b, (V i).v.ownBlock = some b → b < w.heap.size
  ow : ∀ i, lo ≤ i → i < N → OwnB w base (V i).v (rp (V i).n (mrk i))
  gs : ∀ i, i < m → OwnB w base (G i) (rp ((V i).n + 20) (mrk i)) ∧ Tg tg (G i) (i + 1)
  al : w.ownsRow base 25 1 all m ((List.range m).map G) ∧ Tg tg all (N + 1)
  be : Below base w0 w
  zb : base ≤ w.heap.size
  z0 : w0.heap.size ≤ w.heap.size
  fr : ∀ k, k < w0.heap.size → tz k = 0 → tg k = 0 ∧ w.heap[k]? = w0.heap[k]?
section
variable {w0 w w' : World} {base q B cB N : Nat} {qo : Option Obj} {V : Nat → Lst} {tz tg : Nat → Nat} {lo m : Nat} {G : Nat → Value} {all : Value}
theorem Ph2.below (h : Ph2 w0 w base q B cB N qo V tz tg lo m G all) (hb : Below w.heap.size w w') : Ph2 w0 w' base q B cB N qo V tz tg lo m G all :=
  ⟨h.bk.keep (hb.block q h.bk.lq) (hb.block B h.bk.lB) hb.size, h.tq, h.tB, fun i hi => ⟨byt_below (h.rd i hi).1 hb, (h.rd i hi).2.1, fun b e => Nat.lt_of_lt_of_le ((h.rd i hi).2.2 b e) hb.size⟩,
    fun i h1 h2 => (h.ow i h1 h2).below hb, fun i hi => ⟨(h.gs i hi).1.below hb, (h.gs i hi).2⟩, ⟨World.ownsRow.kept h.al.1 (row := none) ⟨hb.os, hb.tape, hb.output, hb.size, fun k hk _ => hb.block k hk⟩ (by cases hx : all.ownBlock <;> simp), h.al.2⟩, h.be.trans (hb.mono h.zb), Nat.le_trans h.zb hb.size, Nat.le_trans h.z0 hb.size, fun k hk ht => ⟨(h.fr k hk ht).1, (hb.block k (Nat.lt_of_lt_of_le hk h.z0)).trans (h.fr k hk ht).2⟩⟩
/-- The new block's tag. -/
def tgN (tg : Nat → Nat) (z t : Nat) : Nat → Nat := fun b => if b < z then tg b else t
theorem Tg.new {v : Value} {t : Nat} (z t' : Nat) (h : Tg tg v t) (hl : ∀ b, v.ownBlock = some b → b < z) : Tg (tgN tg z t') v t := fun b e => by
  unfold tgN
  rw [if_pos (hl b e)]
  exact h b e
/-- One list is grown: all others stay. -/
theorem Ph2.grow (h : Ph2 w0 w base q B cB N qo V tz tg lo m G all) (t : Nat) (v v' : Value) (h1 : 1 ≤ t) (gr : w.grownBy w' v.ownBlock) (ht : Tg tg v t) (hv : ∀ b, v.ownBlock = some b → base ≤ b ∧ b < w.heap.size) (hblk : v'.ownBlock = v.ownBlock ∨ v'.ownBlock = some w.heap.size)
    (hrd : ∀ i, i + 1 = t → i < N → Byt w' (V i).a (rp (V i).n (mrk i))) (how : ∀ i, lo ≤ i → i < N → i + 1 ≠ t) (hgs : ∀ i, i < m → i + 1 ≠ t) (hal : N + 1 ≠ t) : Ph2 w0 w' base q B cB N qo V tz (tgN tg w.heap.size t) lo m G all ∧ Tg (tgN tg w.heap.size t) v' t := by
  have ne : ∀ b, tg b ≠ t → some b ≠ v.ownBlock := fun b hb e => hb (ht b e.symm)
  have kp : ∀ {e : TypeId} {sz n : Nat} {u : Value} {xs : List Value} {s : Nat}, w.ownsRow base e sz u n xs → Tg tg u s → s ≠ t → w'.ownsRow base e sz u n xs := fun {e sz n u xs s} o tu hs => World.ownsRow.kept o gr (by
    cases hx : u.ownBlock with
    | none => exact .inl rfl
    | some b => exact .inr (fun e => by have := tu b hx; have := ht b e.symm; omega))
  have lt : ∀ {e : TypeId} {sz n : Nat} {u : Value} {xs : List Value}, w.ownsRow base e sz u n xs → ∀ b, u.ownBlock = some b → b < w.heap.size := fun o b e => (World.ownsRow.lt o b e).2
  refine ⟨⟨h.bk.keep (gr.block q h.bk.lq (ne q (by rw [h.tq]; omega))) (gr.block B h.bk.lB (ne B (by rw [h.tB]; omega))) gr.size, ?_, ?_, fun i hi => ?_, fun i h1 h2 => kp (h.ow i h1 h2) (h.rd i h2).2.1 (how i h1 h2), fun i hi => ⟨kp (h.gs i hi).1 (h.gs i hi).2 (hgs i hi), (h.gs i hi).2.new _ _ (lt (h.gs i hi).1)⟩, ⟨kp h.al.1 h.al.2 hal, h.al.2.new _ _ (lt h.al.1)⟩, h.be.grown gr h.zb (fun b e => (hv b e).1), Nat.le_trans h.zb gr.size, Nat.le_trans h.z0 gr.size, fun k hk ht0 => (by
    have hkz := Nat.lt_of_lt_of_le hk h.z0
    obtain ⟨f1, f2⟩ := h.fr k hk ht0
    refine ⟨?_, (gr.block k hkz (ne k (by rw [f1]; omega))).trans f2⟩
    unfold tgN
    rw [if_pos hkz]
    exact f1)⟩, fun b e => ?_⟩
  · unfold tgN; rw [if_pos h.bk.lq]; exact h.tq
  · unfold tgN; rw [if_pos h.bk.lB]; exact h.tB
  · obtain ⟨r1, r2, r3⟩ := h.rd i hi
    refine ⟨?_, r2.new _ _ r3, fun b e => Nat.lt_of_lt_of_le (r3 b e) gr.size⟩
    by_cases e : i + 1 = t
    · exact hrd i e hi
    · exact byt_grown r1 gr (fun _ b off ea e2 => by
        have : (V i).v.ownBlock = some b := by unfold Lst.v; rw [ea]; rfl
        have := r2 b this
        have := ht b e2.symm
        omega)
  · unfold tgN
    rcases hblk with e2 | e2
    · rw [e2] at e
      rw [if_pos (hv b e).2]
      exact ht b e
    · rw [e2] at e
      cases e
      rw [if_neg (by omega)]
theorem Ph2.done (h : Ph2 w0 w base q B cB N qo V tz tg (m + 1) m G all) (hm : m < N) (g all' : Value) (og : OwnB w base g (rp ((V m).n + 20) (mrk m))) (hg : Tg tg g (m + 1)) (gr : w.grownBy w' all.ownBlock) (hblk : all'.ownBlock = all.ownBlock ∨ all'.ownBlock = some w.heap.size)
    (rows : w'.ownsRow base 25 1 all' (m + 1) ((List.range m).map G ++ [g])) : ∃ tg', Ph2 w0 w' base q B cB N qo V tz tg' (m + 1) (m + 1) (fun i => if i = m then g else G i) all' := by
  have ht := h.al.2
  have hv : ∀ b, all.ownBlock = some b → base ≤ b ∧ b < w.heap.size := fun b e => World.ownsRow.lt h.al.1 b e
  have ne : ∀ b, tg b ≠ N + 1 → some b ≠ all.ownBlock := fun b hb e => hb (ht b e.symm)
  have kp : ∀ {e : TypeId} {sz n : Nat} {u : Value} {xs : List Value} {s : Nat}, w.ownsRow base e sz u n xs → Tg tg u s → s ≠ N + 1 → w'.ownsRow base e sz u n xs := fun {e sz n u xs s} o tu hs => World.ownsRow.kept o gr (by
    cases hx : u.ownBlock with
    | none => exact .inl rfl
    | some b => exact .inr (fun e => by have := tu b hx; have := ht b e.symm; omega))
  have lt : ∀ {e : TypeId} {sz n : Nat} {u : Value} {xs : List Value}, w.ownsRow base e sz u n xs → ∀ b, u.ownBlock = some b → b < w.heap.size := fun o b e => (World.ownsRow.lt o b e).2
  refine ⟨tgN tg w.heap.size (N + 1), ⟨h.bk.keep (gr.block q h.bk.lq (ne q (by rw [h.tq]; omega))) (gr.block B h.bk.lB (ne B (by rw [h.tB]; omega))) gr.size, ?_, ?_, fun i hi => ?_, fun i h1 h2 => kp (h.ow i h1 h2) (h.rd i h2).2.1 (by omega), fun i hi => ?_, ⟨?_, fun b e => ?_⟩, h.be.grown gr h.zb (fun b e => (hv b e).1), Nat.le_trans h.zb gr.size, Nat.le_trans h.z0 gr.size, fun k hk ht0 => (by
    have hkz := Nat.lt_of_lt_of_le hk h.z0
    obtain ⟨f1, f2⟩ := h.fr k hk ht0
    refine ⟨?_, (gr.block k hkz (ne k (by rw [f1]; omega))).trans f2⟩
    unfold tgN
    rw [if_pos hkz]
    exact f1)⟩⟩
  · unfold tgN; rw [if_pos h.bk.lq]; exact h.tq
  · unfold tgN; rw [if_pos h.bk.lB]; exact h.tB
  · obtain ⟨r1, r2, r3⟩ := h.rd i hi
    refine ⟨byt_grown r1 gr (fun _ b off ea e2 => ?_), r2.new _ _ r3, fun b e => Nat.lt_of_lt_of_le (r3 b e) gr.size⟩
    have : (V i).v.ownBlock = some b := by unfold Lst.v; rw [ea]; rfl
    have := r2 b this
    have := ht b e2.symm
    omega
  · show OwnB w' base (if i = m then g else G i) _ ∧ Tg _ (if i = m then g else G i) _
    by_cases e : i = m
    · subst e
      rw [if_pos rfl]
      exact ⟨kp og hg (by omega), hg.new _ _ (lt og)⟩
    · rw [if_neg e]
      have hi2 : i < m := by omega
      exact ⟨kp (h.gs i hi2).1 (h.gs i hi2).2 (by omega), (h.gs i hi2).2.new _ _ (lt (h.gs i hi2).1)⟩
  · have : (List.range (m + 1)).map (fun i => if i = m then g else G i) = (List.range m).map G ++ [g] := by
      rw [List.range_succ, List.map_append]
      congr 1
      · apply List.map_congr_left
        intro i hi
        rw [if_neg (by have := List.mem_range.1 hi; omega)]
      · simp
    rw [this]
    exact rows
  · unfold tgN
    rcases hblk with e2 | e2
    · rw [e2] at e
      rw [if_pos (hv b e).2]
      exact ht b e
    · rw [e2] at e
      cases e
      rw [if_neg (by omega)]
end
end Go.Proofs.YtdnocpngdepbgaaGreatDoor.K
