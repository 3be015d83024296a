import Derived.Test.YtldlljobofnmmaaDoorRnn0
import Derived.Laws.FloatArith
namespace Go.Proofs.YtldlljobofnmmaaDoor
open Go.RowKit
set_option linter.unusedVariables false
set_option linter.unusedSimpArgs false

def RP : RowT PlK := ⟨PlK.c, PlK.ok, 67, 96, 52, 22, zPl⟩
theorem RP_is : RP.Is := ⟨zPl_ok, fun _ h => PlK.len h, PlK.one, Tryd.underlying22, by kernel_rfl, ⟨_, Tryd.underlying52, rfl⟩, by decide, by decide⟩
theorem szP {u : PlK} (h : u.ok) : (Tryd.prog.info? 52).map (·.size) = some (RP.c u).toArray.size := by
  rw [List.size_toArray]
  show _ = some u.c.length
  rw [PlK.len h]
  exact szPl
theorem pl_box (w : World) : ∃ w2, (Instr.alloc 52 true (.tuple #[])).run Tryd.prog w = .ok (.pointer (some ⟨w.heap.size, 0, none⟩)) w2 ∧ RP.Bx w2 w.heap.size zPl ∧ Below w.heap.size w w2 := ⟨_, RowT.bx_zero RP_is w, heap_alloc_new _ _, (Below.refl _ _).alloc (Nat.le_refl _) _⟩
theorem pl_put {w : World} {b : Nat} {x u : PlK} (hx : x.ok) (hu : u.ok) (h : RP.Bx w b x) : ∃ w', (Instr.storeAt 52 (.pointer (some ⟨b, 0, none⟩)) u.v).run Tryd.prog w = .ok () w' ∧ RP.Bx w' b u ∧ Tch (fun j => j = b) w w' := by
  have t := setRow_tch w b u.c.toArray
  refine ⟨_, RowT.bx_store RP_is hx hu h, setRow_heap w b _ _ _ _ h, t.mono (fun j _ e => ?_)⟩
  simp at e
  exact e.symm
/-- A place's box, written at once. -/
theorem pl_new (w : World) {u : PlK} (hu : u.ok) : ∃ w1 w2, (Instr.alloc 52 true (.tuple #[])).run Tryd.prog w = .ok (.pointer (some ⟨w.heap.size, 0, none⟩)) w1 ∧ (Instr.storeAt 52 (.pointer (some ⟨w.heap.size, 0, none⟩)) u.v).run Tryd.prog w1 = .ok () w2 ∧ RP.Bx w2 w.heap.size u ∧ Below w.heap.size w w2 := by
  obtain ⟨w1, e1, n1, b1⟩ := pl_box w
  obtain ⟨w2, e2, n2, t2⟩ := pl_put zPl_ok hu n1
  exact ⟨w1, w2, e1, e2, n2, b1.trans (t2.below b1.size (fun j e => by rw [e]; exact Nat.le_refl _))⟩
def RI : RowT IdK := ⟨IdK.c, IdK.ok, 33, 40, 38, 43, zId⟩
theorem RI_is : RI.Is := ⟨zId_ok, fun _ h => IdK.len h, IdK.one, Tryd.underlying43, by kernel_rfl, ⟨_, Tryd.underlying38, rfl⟩, by decide, by decide⟩
theorem id_newR (w : World) {u : IdK} (hu : u.ok) : ∃ w1 w2, (Instr.alloc 38 true (.tuple #[])).run Tryd.prog w = .ok (.pointer (some ⟨w.heap.size, 0, none⟩)) w1 ∧ (Instr.storeAt 38 (.pointer (some ⟨w.heap.size, 0, none⟩)) u.v).run Tryd.prog w1 = .ok () w2 ∧ w2.heap[w.heap.size]? = some (.cells u.c.toArray 38 (0, 0)) ∧ Below w.heap.size w w2 :=
  ⟨_, _, RowT.bx_zero RI_is w, RowT.bx_new RI_is w hu, heap_alloc_new _ _, (Below.refl _ _).alloc (Nat.le_refl _) _⟩
/-- The place of a number. -/
def atP (Ps : List PlK) (m : Int) : PlK := if m < 0 then zPl else (Ps[m.toNat]?).getD zPl
theorem atP_ok {Ps : List PlK} (h : ∀ x ∈ Ps, x.ok) (m : Int) : (atP Ps m).ok := by
  unfold atP
  split
  · exact zPl_ok
  · cases e : Ps[m.toNat]? with
    | none => exact zPl_ok
    | some x => exact h x (List.mem_of_getElem? e)
theorem build_pl (w : World) : (Instr.build 52 #[]).run Tryd.prog w = .ok zPl.v w := by kernel_rfl
theorem ix_pl {b o m c i : Nat} (hi : i < m) (hm : m ≤ 9223372036854775807) (W : World) : (Instr.indexAt 22 (.slice (some ⟨b, o, none⟩) m c) (.int .i64 (i : Int))).run Tryd.prog W = .ok (.pointer (some ⟨b, o + i * 67, none⟩)) W := by
  go_simp
set_option maxRecDepth 100000 in
set_option maxHeartbeats 2000000 in
theorem at_any {w : World} {a : Option Addr} {c : Nat} {Ps : List PlK} (hP : RowAt 67 PlK.c w a Ps) (ok : ∀ x ∈ Ps, x.ok) (hn : Ps.length ≤ 2000000000000) {m : Int} (hm : -9223372036854775808 ≤ m ∧ m ≤ 9223372036854775807) :
    Calls Tryd.prog 15 #[.slice a Ps.length c, .int .i64 m] w fun e w' => e = .returned (atP Ps m).v ∧ Below w.heap.size w w' := by
  obtain ⟨w1, e1, n1, b1⟩ := pl_box w
  have H1 := hidMk e1
  obtain ⟨u, hu⟩ : ∃ u, atP Ps m = u := ⟨_, rfl⟩
  have hok : u.ok := by rw [← hu]; exact atP_ok ok m
  obtain ⟨w2, e2, n2, t2⟩ := pl_put zPl_ok hok n1
  have b2 : Below w.heap.size w w2 := b1.trans (t2.below b1.size (fun j e => by rw [e]; exact Nat.le_refl _))
  have H2 := hidMk e2
  have HF := hidMk (And.intro n2 b2)
  rw [hu]
  obtain ⟨n, hnn⟩ : ∃ n, Ps.length = n := ⟨_, rfl⟩
  by_cases h0 : m < 0
  · have hz : u = zPl := by rw [← hu, atP, if_pos h0]
    subst hz
    rw [hnn]
    clear e1 n1 b1 e2 n2 t2 b2 hu hP hnn
    go_enter Tryd.func15, Tryd.ntmps15
    go_wp2_with (first
      | (refine wpList_run rfl (exec_alloc (w2 := w1) rfl H1.out) ?_)
      | (refine wpList_val rfl (exec_build0 rfl (build_pl _)) ?_)
      | (refine wpList_skip rfl rfl (exec_store (w2 := w2) rfl rfl rfl H2.out) ?_)
      | fail)
    refine bodyPost_ret (results_cell_row Tryd.results15 _ _ w.heap.size _ _ _ _ rfl HF.out.1 Tryd.underlying52 rfl (szP hok)) rfl ?_
    exact ⟨rfl, HF.out.2⟩
  · obtain ⟨k, rfl⟩ : ∃ k : Nat, m = (k : Int) := ⟨m.toNat, by omega⟩
    by_cases hk : k < n
    · obtain ⟨x, hx⟩ : ∃ x, Ps[k]? = some x := ⟨_, List.getElem?_eq_getElem (by omega)⟩
      have hz : u = x := by rw [← hu, atP, if_neg h0, Int.toNat_natCast, hx]; rfl
      subst hz
      obtain ⟨g, o, rfl, lg, hr⟩ : ∃ g o, a = some ⟨g, o, none⟩ ∧ g < w.heap.size ∧ w.rangeAt g (o + k * 67) u.c := by
        rcases hP with h | ⟨g, o, e, h1, h2⟩
        · rw [h] at hx; cases hx
        · exact ⟨g, o, e, h1, h2 k u hx⟩
      have HX := hidMk (ld_pl hok (rangeAt_keep hr (b1.block g lg)))
      have HI := hidMk (ix_pl (b := g) (o := o) (c := c) hk (by omega) w1)
      rw [hnn] at hn ⊢
      clear e1 n1 b1 e2 n2 t2 b2 hu hP hnn hr hx lg
      go_enter Tryd.func15, Tryd.ntmps15
      go_wp2_with (first
        | (refine wpList_run rfl (exec_alloc (w2 := w1) rfl H1.out) ?_)
        | (refine wpList_val rfl (exec_indexAt rfl rfl rfl HI.out) ?_)
        | (refine wpList_val rfl (exec_load rfl rfl HX.out) ?_)
        | (refine wpList_skip rfl rfl (exec_store (w2 := w2) rfl rfl rfl H2.out) ?_)
        | fail)
      refine bodyPost_ret (results_cell_row Tryd.results15 _ _ w.heap.size _ _ _ _ rfl HF.out.1 Tryd.underlying52 rfl (szP hok)) rfl ?_
      exact ⟨rfl, HF.out.2⟩
    · have hz : u = zPl := by rw [← hu, atP, if_neg h0, Int.toNat_natCast, List.getElem?_eq_none (by omega)]; rfl
      subst hz
      rw [hnn]
      clear e1 n1 b1 e2 n2 t2 b2 hu hP hnn
      go_enter Tryd.func15, Tryd.ntmps15
      go_wp2_with (first
        | (refine wpList_run rfl (exec_alloc (w2 := w1) rfl H1.out) ?_)
        | (refine wpList_val rfl (exec_build0 rfl (build_pl _)) ?_)
        | (refine wpList_skip rfl rfl (exec_store (w2 := w2) rfl rfl rfl H2.out) ?_)
        | fail)
      refine bodyPost_ret (results_cell_row Tryd.results15 _ _ w.heap.size _ _ _ _ rfl HF.out.1 Tryd.underlying52 rfl (szP hok)) rfl ?_
      exact ⟨rfl, HF.out.2⟩
set_option maxRecDepth 100000 in
set_option maxHeartbeats 2000000 in
/-- live's closure. -/
theorem tells_live {w : World} {xb : Nat} {x : IdK} (hx : x.ok) (hb : w.heap[xb]? = some (.cells x.c.toArray 38 (0, 0))) : Tells w 31 #[.pointer (some ⟨xb, 0, none⟩)] (fun k => decide (k = x)) := by
  refine ⟨enters_of Tryd.func31 (by kernel_rfl) rfl, fun W bW k hk => ?_⟩
  obtain ⟨w1, E1, n1, b1⟩ := box_id W k
  have hW := (bW.block xb (Array.getElem?_eq_some_iff.1 hb).1).trans hb
  have h1 := (b1.block xb (Array.getElem?_eq_some_iff.1 hW).1).trans hW
  have H1 := hidMk E1
  have L1 := hidMk (load_id hk n1)
  have L2 := hidMk (load_id hx h1)
  have HB := hidMk b1
  have EQ := hidMk (eql_idR k x hk hx w1)
  clear E1 n1 b1 hW h1 bW hb
  show Calls Tryd.prog 31 #[k.v, .pointer (some ⟨xb, 0, none⟩)] W _
  go_enter Tryd.func31, Tryd.ntmps31
  go_wp2_with (first
    | (refine wpList_run rfl (exec_boxE (t := 38) (v := k.v) (u := .pointer (some ⟨W.heap.size, 0, none⟩)) (w2 := w1) rfl rfl H1.out) ?_)
    | (refine wpList_val rfl (exec_load (v := k.v) rfl rfl L1.out) ?_)
    | (refine wpList_val rfl (exec_load (v := x.v) rfl rfl L2.out) ?_)
    | (refine wpList_val rfl (exec_binOp rfl rfl rfl (guard_idR _ _ _ _ _ _) EQ.out) ?_)
    | fail)
  go_ret
  exact ⟨rfl, HB.out⟩
end Go.Proofs.YtldlljobofnmmaaDoor

namespace Go.Proofs.YtldlljobofnmmaaDoor
open Go.RowKit
set_option linter.unusedVariables false
set_option linter.unusedSimpArgs false

def pA : PlK := ⟨zId, ⟨#[97]⟩, zId⟩
theorem pA_ok : pA.ok := ⟨zId_ok, by decide, zId_ok⟩
def idN (n : Int) : IdK := { zId with n := n }
theorem idN_ok {n : Int} (h : -9223372036854775808 ≤ n ∧ n ≤ 9223372036854775807) : (idN n).ok := ⟨zId_ok.l, h.1, h.2⟩
set_option maxRecDepth 100000 in
theorem build_pA (w : World) : (Instr.build 52 #[(1, .string ⟨#[97]⟩)]).run Tryd.prog w = .ok pA.v w := by kernel_rfl
set_option maxRecDepth 100000 in
theorem build_i1 (w : World) : (Instr.build 38 #[(1, .int .i64 1)]).run Tryd.prog w = .ok (idN 1).v w := by kernel_rfl
set_option maxRecDepth 100000 in
theorem build_i2 (w : World) : (Instr.build 38 #[(1, .int .i64 2)]).run Tryd.prog w = .ok (idN 2).v w := by kernel_rfl
def vC (n : Int) : VaV := ⟨7, n, 0, ⟨#[]⟩⟩
theorem vC_ok {n : Int} (h : -9223372036854775808 ≤ n ∧ n ≤ 9223372036854775807) : (vC n).ok := ⟨by show (0 : Int) ≤ 7; decide, by show (7 : Int) ≤ 255; decide, h.1, h.2, by show (0 : Nat) < _; decide, by show (0 : Nat) ≤ _; decide⟩
theorem build_vC (w : World) : (Instr.build 42 #[(0, .int .u8 7), (1, .int .i64 5)]).run Tryd.prog w = .ok (vC 5).v w := by kernel_rfl
theorem build_v0 (w : World) : (Instr.build 42 #[]).run Tryd.prog w = .ok zVa.v w := by kernel_rfl
theorem sum_live : sumV 3 (vC 5) = vC 8 := by decide +kernel
/-- How many places there are, where only one has something. -/
theorem one_place {w : World} {base : Nat} {s : Rs} (m : RgM w base s) {p : PlK} (h : ∀ q, liOf s.P q ≠ [] ↔ q = p) : s.P.length = 1 := by
  have hk := m.places
  have hin : ∀ q ∈ s.P, q.1 = p := fun q hq => (h q.1).1 (by
    unfold liOf
    rw [M.look_of_mem hk (show (q.1, q.2) ∈ s.P from hq)]
    exact (m.en q hq).2.1)
  have hne : s.P ≠ [] := fun e => by
    have := (h p).2 rfl
    rw [e] at this
    exact this rfl
  match hP : s.P with
  | [] => exact absurd hP hne
  | [q] => rfl
  | q :: r :: l =>
    rw [hP] at hk hin
    have h1 := hin q (by simp)
    have h2 := hin r (by simp)
    simp [h1, h2] at hk
theorem RgM.geAll {w : World} {base : Nat} {s : Rs} (h : RgM w base s) {j : Nat} (hj : s.all j) : base ≤ j := by
  rcases hj with hj | ⟨q, hq, e⟩
  · exact h.lo j hj
  · exact ((h.en q hq).1.cells e).1
/-- live's state. -/
structure LSt (w : World) (r0 pb xb yb : Nat) (p : PlK) (x y : IdK) (s : Rs) (H : List Rec) (L : List EnV) (W : World) : Prop where
  ra : RgAt W w.heap.size s H
  bel : Below w.heap.size w W
  np : W.heap[pb]? = some (.cells p.c.toArray 52 (0, 0))
  nx : W.heap[xb]? = some (.cells x.c.toArray 38 (0, 0))
  ny : W.heap[yb]? = some (.cells y.c.toArray 38 (0, 0))
  li : ∀ q, liOf s.P q = if q = p then L else []
  r : s.r = r0
section
variable {w W W' : World} {r0 pb xb yb : Nat} {p : PlK} {x y : IdK} {s : Rs} {H : List Rec} {L : List EnV}
theorem LSt.below (h : LSt w r0 pb xb yb p x y s H L W) (b : Below W.heap.size W W') : LSt w r0 pb xb yb p x y s H L W' :=
  ⟨h.ra.below b, h.bel.trans (b.mono h.bel.size), (b.block _ (Array.getElem?_eq_some_iff.1 h.np).1).trans h.np, (b.block _ (Array.getElem?_eq_some_iff.1 h.nx).1).trans h.nx, (b.block _ (Array.getElem?_eq_some_iff.1 h.ny).1).trans h.ny, h.li, h.r⟩
theorem LSt.tch (h : LSt w r0 pb xb yb p x y s H L W) (t : Tch s.all W W') : Below w.heap.size w W' ∧ W'.heap[pb]? = some (.cells p.c.toArray 52 (0, 0)) ∧ W'.heap[xb]? = some (.cells x.c.toArray 38 (0, 0)) ∧ W'.heap[yb]? = some (.cells y.c.toArray 38 (0, 0)) := by
  have go : ∀ {j : Nat} {c : Array Value} {ty : TypeId}, W.heap[j]? = some (.cells c ty (0, 0)) → ty ≠ 84 → ty ≠ 63 → W'.heap[j]? = some (.cells c ty (0, 0)) := fun h1 h2 h3 => (t.block _ (Array.getElem?_eq_some_iff.1 h1).1 (h.ra.mem.other h1 h2 h3)).trans h1
  exact ⟨h.bel.trans (t.below h.bel.size (fun j hj => h.ra.mem.geAll hj)), go h.np (by decide) (by decide), go h.nx (by decide) (by decide), go h.ny (by decide) (by decide)⟩
theorem LSt.op (h : LSt w r0 pb xb yb p x y s H L W) {L' : List EnV} {rc : Rec} {s' : Rs} (o : OpN W w.heap.size s H p L' rc s' W') : LSt w r0 pb xb yb p x y s' (rc :: H) L' W' := by
  obtain ⟨h1, h2, h3, h4⟩ := h.tch o.tch
  refine ⟨o.at', h1, h2, h3, h4, fun q => ?_, o.r.trans h.r⟩
  rw [o.li]
  by_cases e : q = p
  · rw [if_pos e, if_pos e]
  · rw [if_neg e, if_neg e, h.li, if_neg e]
theorem LSt.here (h : LSt w r0 pb xb yb p x y s H L W) : liOf s.P p = L := by rw [h.li, if_pos rfl]
end
end Go.Proofs.YtldlljobofnmmaaDoor

namespace Go.Proofs.YtldlljobofnmmaaDoor
open Go.RowKit
set_option linter.unusedVariables false
set_option linter.unusedSimpArgs false

/-- live's state behind a step. -/
def LFin (w : World) (r0 pb xb yb : Nat) (p : PlK) (x y : IdK) (n0 : Nat) (L0 : List EnV) (H : List Rec) (L : List EnV) (bk : Nat) (W : World) : Prop := ∃ rc s', rc.bk = bk ∧ LSt w r0 pb xb yb p x y s' (rc :: H) L W ∧ n0 ≤ rc.bk ∧ rc.p = p ∧ rc.bef = L0
section
variable {w W : World} {r0 pb xb yb : Nat} {p : PlK} {x y : IdK} {s : Rs} {H : List Rec} {L L' : List EnV} {F : Nat} {vs : Array Value}
theorem LSt.fin (h : LSt w r0 pb xb yb p x y s H L W) (c : Calls Tryd.prog F vs W (OpE W w.heap.size s H p L')) : Calls Tryd.prog F vs W fun e w' => ∃ bk, e = .returned (.pointer (some ⟨bk, 0, none⟩)) ∧ LFin w r0 pb xb yb p x y W.heap.size L H L' bk w' := by
  refine c.mono ?_
  rintro e w' ⟨rc, s', rfl, o⟩
  exact ⟨_, rfl, rc, s', rfl, h.op o, o.new, o.rp, o.rb.trans h.here⟩
theorem LSt.put (h : LSt w r0 pb xb yb p x y s H L W) (hp : p.ok) {i : IdK} (hi : i.ok) {v : VaV} (hv : v.ok) (hn : L.length ≤ 1000) : Calls Tryd.prog 16 #[.pointer (some ⟨r0, 0, none⟩), p.v, i.v, v.v, .nilFunc] W fun e w' => ∃ bk, e = .returned (.pointer (some ⟨bk, 0, none⟩)) ∧ LFin w r0 pb xb yb p x y W.heap.size L H (L ++ [⟨i, v⟩]) bk w' := by
  have c := put_any h.ra h.bel.size hp hi hv (fv := .nilFunc) (sn := fun _ => false) (.inl ⟨rfl, fun _ => rfl⟩) (by rw [h.here]; omega)
  rw [h.here, h.r] at c
  have e : Rg.res (fun y : EnV => (fun _ : IdK => false) y.id) L = L := List.filter_eq_self.2 fun _ _ => rfl
  rw [e] at c
  exact h.fin c
theorem LSt.ld (h : LSt w r0 pb xb yb p x y s H L W) (hp : p.ok) : ∀ V, V = W → (Instr.loadAt 52 (.pointer (some ⟨pb, 0, none⟩))).run Tryd.prog V = .ok p.v V := fun V e => by rw [e]; exact ld_pl hp (rng_cells h.np)
theorem LSt.ldx (h : LSt w r0 pb xb yb p x y s H L W) (hx : x.ok) : ∀ V, V = W → (Instr.loadAt 38 (.pointer (some ⟨xb, 0, none⟩))).run Tryd.prog V = .ok x.v V := fun V e => by rw [e]; exact load_id hx h.nx
theorem LSt.ldy (h : LSt w r0 pb xb yb p x y s H L W) (hy : y.ok) : ∀ V, V = W → (Instr.loadAt 38 (.pointer (some ⟨yb, 0, none⟩))).run Tryd.prog V = .ok y.v V := fun V e => by rw [e]; exact load_id hy h.ny
theorem LSt.ent (h : LSt w r0 pb xb yb p x y s H L W) (hp : p.ok) (hn : L.length ≤ 1000) : Calls Tryd.prog 20 #[.pointer (some ⟨r0, 0, none⟩), p.v] W fun e w' => ∃ u, e = .returned u ∧ (RN.Own w' W.heap.size u L ∧ LSt w r0 pb xb yb p x y s H L w') := by
  have c := entries_any h.ra.mem hp (by rw [h.here]; omega)
  rw [h.here, h.r] at c
  refine c.mono ?_
  rintro e w' ⟨v, rfl, o, b⟩
  exact ⟨v, rfl, o, h.below b⟩
end
set_option maxRecDepth 100000 in
set_option maxHeartbeats 8000000 in
theorem live_gen (w : World) (p : PlK) (hp : p.ok) (x y : IdK) (hx : x.ok) (hy : y.ok) (v5 v8 v0 : VaV) (h5 : v5.ok) (h0 : v0.ok) (h8 : v8.n = 8) (hs : sumV 3 v5 = v8) (h8k : v8.ok)
    (BP : Hid (∀ w, (Instr.build 52 #[(1, .string ⟨#[97]⟩)]).run Tryd.prog w = .ok p.v w)) (BX : Hid (∀ w, (Instr.build 38 #[(1, .int .i64 1)]).run Tryd.prog w = .ok x.v w)) (BY : Hid (∀ w, (Instr.build 38 #[(1, .int .i64 2)]).run Tryd.prog w = .ok y.v w))
    (BV : Hid (∀ w, (Instr.build 42 #[(0, .int .u8 7), (1, .int .i64 5)]).run Tryd.prog w = .ok v5.v w)) (B0 : Hid (∀ w, (Instr.build 42 #[]).run Tryd.prog w = .ok v0.v w)) :
    Calls Tryd.prog 8 #[] w fun e w' => e = .returned (.bool true) ∧ Below w.heap.size w w' := by
  have HN := hidMk (newR_any w)
  have HV := hidMk (And.intro h5 (And.intro h0 (And.intro h8 (And.intro hs h8k))))
  clear h5 h0 h8 hs h8k
  go_enter Tryd.func8, Tryd.ntmps8
  go_upto_region 2 with (first
    | (go_at_call 9; refine HN.out.mono ?_; rintro e w1 ⟨s, rfl, ra, rl, rp, b1⟩; clear HN)
    | fail)
  obtain ⟨w2, w3, e2, e3, n3, b3⟩ := pl_new w1 hp
  obtain ⟨w4, w5, e4, e5, n5, b5⟩ := id_newR w3 hx
  obtain ⟨w6, w7, e6, e7, n7, b7⟩ := id_newR w5 hy
  have b37 := b5.trans (b7.mono b5.size)
  have b17 := b3.trans (b37.mono b3.size)
  have st7 : Hid (LSt w s.r w1.heap.size w3.heap.size w5.heap.size p x y s [] [] w7) := ⟨ra.below b17, b1.trans (b17.mono b1.size), (b37.block _ (Array.getElem?_eq_some_iff.1 n3).1).trans n3, (b7.block _ (Array.getElem?_eq_some_iff.1 n5).1).trans n5, n7, fun q => by rw [rl]; split <;> rfl, rfl⟩
  generalize w1.heap.size = pb at *
  generalize w3.heap.size = xb at *
  generalize w5.heap.size = yb at *
  generalize s.r = r0 at *
  have HE := hidMk (And.intro e2 (And.intro e3 (And.intro e4 (And.intro e5 (And.intro e6 e7)))))
  clear e2 e3 e4 e5 e6 e7 n3 b3 n5 b5 n7 b7 b37 b17 ra rl rp b1
  refine live2 (b := pb) (u := p.v) (w1 := w2) (w2 := w3) _ w1 _ rfl (BP.out _) HE.out.1 HE.out.2.1 ?_
  intro a' w' hw' ha
  subst ha
  subst hw'
  simp only [Act.put, List.setIfInBounds_toArray, List.set_cons_zero, List.set_cons_succ]
  go_upto_region 3 with fail
  refine live3 (b := xb) (u := x.v) (w1 := w4) (w2 := w5) _ _ _ rfl (BX.out _) HE.out.2.2.1 HE.out.2.2.2.1 ?_
  intro a' w' hw' ha
  subst ha
  subst hw'
  simp only [Act.put, List.setIfInBounds_toArray, List.set_cons_zero, List.set_cons_succ]
  go_upto_region 4 with fail
  refine live4 (b := yb) (u := y.v) (w1 := w6) (w2 := w7) _ _ _ rfl (BY.out _) HE.out.2.2.2.2.1 HE.out.2.2.2.2.2 ?_
  intro a' w' hw' ha
  subst ha
  subst hw'
  simp only [Act.put, List.setIfInBounds_toArray, List.set_cons_zero, List.set_cons_succ]
  clear HE BP BX BY
  go_upto_region 5 with fail
  refine live5 (rb := r0) (pb := pb) (xb := xb) (p := p) (x := x) (v := v5) (LFin w r0 pb xb yb p x y _ [] [] [⟨x, v5⟩]) _ _ _ rfl rfl rfl rfl (BV.out _) (st7.out.ld hp) (st7.out.ldx hx) (st7.out.put hp hx HV.out.1 (by simp)) ?_
  intro bk1 a' w8 hf ha
  subst ha
  simp only [Act.put, List.setIfInBounds_toArray, List.set_cons_zero, List.set_cons_succ]
  obtain ⟨r1, s1, rfl, st8', -⟩ := hf
  have st8 := hidMk st8'
  clear st8' st7
  have CA : Hid (Calls Tryd.prog 18 #[.pointer (some ⟨r0, 0, none⟩), p.v, .int .i64 3, .func (.func 31) #[] #[.pointer (some ⟨xb, 0, none⟩)]] w8 fun e w' => ∃ bk, e = .returned (.pointer (some ⟨bk, 0, none⟩)) ∧ LFin w r0 pb xb yb p x y w8.heap.size [⟨x, v5⟩] [r1] [⟨x, v8⟩] bk w') := by
    have h := st8.out
    have c := add_any h.ra h.bel.size hp (n := 3) (by decide) (.inr ⟨_, _, rfl, tells_live hx h.nx⟩) (by rw [h.here]; simp)
    rw [h.here, h.r] at c
    have e : chs (fun y : EnV => decide (y.id = x)) (sumV 3) [⟨x, v5⟩] = [⟨x, v8⟩] := by
      simp [chs, chg, HV.out.2.2.2.1]
    rw [e] at c
    exact h.fin c
  go_upto_region 6 with fail
  refine live6 (rb := r0) (pb := pb) (xb := xb) (p := p) (LFin w r0 pb xb yb p x y w8.heap.size [⟨x, v5⟩] [r1] [⟨x, v8⟩]) _ _ _ rfl rfl rfl rfl (st8.out.ld hp) CA.out ?_
  intro bk2 a' w9 hf ha
  subst ha
  simp only [Act.put, List.setIfInBounds_toArray, List.set_cons_zero, List.set_cons_succ]
  obtain ⟨r2, s2, rfl, st9', -⟩ := hf
  have st9 := hidMk st9'
  clear st9' CA st8 BV
  go_upto_region 7 with fail
  refine live7 (rb := r0) (pb := pb) (xb := yb) (p := p) (x := y) (v := v0) (LFin w r0 pb xb yb p x y w9.heap.size [⟨x, v8⟩] [r2, r1] [⟨x, v8⟩, ⟨y, v0⟩]) _ _ _ rfl rfl rfl rfl (B0.out _) (st9.out.ld hp) (st9.out.ldy hy) (st9.out.put hp hy HV.out.2.1 (by simp)) ?_
  intro bk3 a' w10 hf ha
  subst ha
  simp only [Act.put, List.setIfInBounds_toArray, List.set_cons_zero, List.set_cons_succ]
  obtain ⟨r3, s3, rfl, st10', hnew, hr3p, hr3b⟩ := hf
  have st10 := hidMk st10'
  have H13 : Hid (r1.bk ≠ r3.bk ∧ r3.p = p ∧ r3.bef = [⟨x, v8⟩]) := by
    have l1 := (Array.getElem?_eq_some_iff.1 st9.out.ra.hist.2.1.b).1
    exact ⟨by omega, hr3p, hr3b⟩
  clear st10' st9 B0 hnew hr3p hr3b
  go_upto_region 8 with fail
  refine live8 (rb := r0) (pb := pb) (p := p) (fun u w' => RN.Own w' w10.heap.size u [⟨x, v8⟩, ⟨y, v0⟩] ∧ LSt w r0 pb xb yb p x y s3 [r3, r2, r1] [⟨x, v8⟩, ⟨y, v0⟩] w') _ _ _ rfl rfl rfl (st10.out.ld hp) (st10.out.ent hp (by simp)) ?_
  intro u a' w11 hf ha
  subst ha
  simp only [Act.put, List.setIfInBounds_toArray, List.set_cons_zero, List.set_cons_succ]
  obtain ⟨ou, st11'⟩ := hf
  have ok2 : ∀ z ∈ ([⟨x, v8⟩, ⟨y, v0⟩] : List EnV), z.ok := fun z hz => by
    simp at hz
    rcases hz with rfl | rfl
    · exact ⟨hx, HV.out.2.2.2.2⟩
    · exact ⟨hy, HV.out.2.1⟩
  obtain ⟨ua, uc, rfl, hat, -⟩ := ou.lo.open RN_is ok2
  obtain ⟨g, o, rfl, hg1, hg2⟩ : ∃ g o, ua = some ⟨g, o, none⟩ ∧ w11.rangeAt g (o + 37 * 0) (EnV.c ⟨x, v8⟩) ∧ w11.rangeAt g (o + 37 * 1) (EnV.c ⟨y, v0⟩) := by
    rcases hat with h | ⟨g, o, e, h1, h2⟩
    · cases h
    · exact ⟨g, o, e, h2 0 _ rfl, h2 1 _ rfl⟩
  have st11 := hidMk (st11'.below (Below.refl w11.heap.size w11).drew)
  have LL : Hid ((∀ W, W = w11.drew → (Instr.loadAt 38 (.pointer (some ⟨g, o + 37 * 0 + 0, none⟩))).run Tryd.prog W = .ok x.v W) ∧ (∀ W, W = w11.drew → (Instr.loadAt 2 (.pointer (some ⟨g, o + 37 * 0 + 33 + 1, none⟩))).run Tryd.prog W = .ok (.int .i64 8) W) ∧ (∀ W, W = w11.drew → (Instr.loadAt 38 (.pointer (some ⟨g, o + 37 * 1 + 0, none⟩))).run Tryd.prog W = .ok y.v W)) := by
    refine ⟨fun W e => ?_, fun W e => ?_, fun W e => ?_⟩
    · rw [e]; exact en_id (x := ⟨x, v8⟩) (w := w11.drew) (ok2 _ (by simp)) hg1
    · rw [e]
      have hc : w11.drew.cell? ⟨g, o + 37 * 0 + 33 + 1, none⟩ = some (.int .i64 v8.n) := rng_va (x := ⟨x, v8⟩) (w := w11.drew) (ok2 _ (by simp)) hg1 1 _ rfl
      rw [HV.out.2.2.1] at hc
      go_simp
    · rw [e]; exact en_id (x := ⟨y, v0⟩) (w := w11.drew) (ok2 _ (by simp)) hg2
  have CL : Hid (Calls Tryd.prog 24 #[.pointer (some ⟨r0, 0, none⟩)] w11.drew fun e w' => e = .returned (.int .i64 1) ∧ w' = w11.drew) := by
    have c := len_any st11.out.ra.mem
    rw [one_place st11.out.ra.mem (p := p) (fun q => by
      rw [st11.out.li]
      by_cases e : q = p
      · simp [e]
      · simp [e]), st11.out.r] at c
    exact c
  have U1 : Hid (Calls Tryd.prog 19 #[.pointer (some ⟨r0, 0, none⟩), .pointer (some ⟨r1.bk, 0, none⟩)] w11.drew fun e w' => e = .returned (.int .i64 2) ∧ w' = w11.drew) := by
    have h := st11.out.ra
    have c := undo_not h (bk := r1.bk) ⟨_, h.hist.2.2.1.b⟩ (by
      show some (⟨r3.bk, 0, none⟩ : Addr) ≠ _
      intro e
      injection e with e
      injection e with e
      exact H13.out.1 e.symm)
    rw [st11.out.r] at c
    exact c
  have U2 : Hid (Calls Tryd.prog 19 #[.pointer (some ⟨r0, 0, none⟩), .pointer (some ⟨r3.bk, 0, none⟩)] w11.drew fun e w' => e = .returned (.int .i64 0) ∧ ∃ s4, LSt w r0 pb xb yb p x y s4 [r2, r1] [⟨x, v8⟩] w') := by
    have h := st11.out
    have c := undo_any h.ra h.bel.size
    rw [h.r] at c
    refine c.mono ?_
    rintro e w' ⟨rfl, s4, h4, r4, l4, a4, t4⟩
    obtain ⟨q1, q2, q3, q4⟩ := h.tch t4
    refine ⟨rfl, s4, h4, q1, q2, q3, q4, fun q => ?_, r4.trans h.r⟩
    rw [l4, H13.out.2.1, H13.out.2.2]
    by_cases e : q = p
    · rw [if_pos e, if_pos e]
    · rw [if_neg e, if_neg e, h.li, if_neg e]
  clear hg1 hg2 hat ou st11' ok2
  go_upto_region 9 with fail
  refine live9 (rb := r0) (xb := xb) (yb := yb) (g := g) (o := o) (lc := uc) (x := x) (y := y) _ w11 _ rfl rfl rfl rfl rfl hx hy LL.out.1 (st11.out.ldx hx) LL.out.2.1 LL.out.2.2 (st11.out.ldy hy) CL.out ?_
  intro a' w' hw' ha
  subst ha
  subst hw'
  simp only [Act.put, List.setIfInBounds_toArray, List.set_cons_zero, List.set_cons_succ]
  clear LL CL HV H13 st10 st11
  go_wp2_with (first
    | (go_at_call 19; refine U1.out.mono ?_; rintro e w12 ⟨rfl, rfl⟩; clear U1)
    | (go_at_call 19; refine U2.out.mono ?_; rintro e w13 ⟨rfl, s4, st'⟩; have LP := hidMk (st'.ld hp w13 rfl); have CE := hidMk (st'.ent hp (by simp)); clear U2 st')
    | (refine wpList_val rfl (exec_load (t := 52) (v := p.v) rfl rfl LP.out) ?_)
    | (go_at_call 20; refine CE.out.mono ?_; rintro e w14 ⟨u, rfl, ou, st14⟩; obtain ⟨ua, uc2, rfl⟩ := ou.form; have B := hidMk st14.bel; clear ou st14 CE)
    | fail)
  go_ret
  exact ⟨rfl, B.out⟩
theorem live_any (w : World) : Calls Tryd.prog 8 #[] w fun e w' => e = .returned (.bool true) ∧ Below w.heap.size w w' :=
  live_gen w pA pA_ok (idN 1) (idN 2) (idN_ok (by decide)) (idN_ok (by decide)) (vC 5) (vC 8) zVa (vC_ok (by decide)) zVa_ok rfl sum_live (vC_ok (by decide)) (hidMk build_pA) (hidMk build_i1) (hidMk build_i2) (hidMk build_vC) (hidMk build_v0)
end Go.Proofs.YtldlljobofnmmaaDoor

namespace Go.Proofs.YtldlljobofnmmaaDoor
open Go.RowKit
set_option linter.unusedVariables false
set_option linter.unusedSimpArgs false

theorem belN2 (w : World) (a b : Obj) : Below w.heap.size w ((w.alloc a).alloc b) := ((Below.refl _ _).alloc (Nat.le_refl _) _).alloc (by simp) _
set_option maxRecDepth 100000 in
set_option maxHeartbeats 1000000 in
theorem same_zero (w : World) : Calls Tryd.prog 22 #[zVa.v, zVa.v] w fun e w' => e = .returned (.bool true) ∧ Below w.heap.size w w' := by
  have z1 : (FloatKind.f64.format.order 0 0 == some .eq) = true := by decide +kernel
  have z2 : (FloatKind.f64.format.order 0 0 != some .eq) = false := by decide +kernel
  have z3 : (FloatKind.f64.format.order 9218868437227405312 9218868437227405312 == some .eq) = true := by decide +kernel
  have hq : ∀ W, (binOp .quo 40 (.float .f64 4607182418800017408) (.float .f64 0)).run Tryd.prog W = .ok (.float .f64 9218868437227405312) W := fun W => run_float_arith W .quo 40 .f64 _ _ _ (by decide +kernel)
  show Calls Tryd.prog 22 #[.agg #[.int .u8 0, .int .i64 0, .float .f64 0, .string ⟨#[]⟩], .agg #[.int .u8 0, .int .i64 0, .float .f64 0, .string ⟨#[]⟩]] w _
  go_enter Tryd.func22, Tryd.ntmps22
  go_wp2
  go_ret
  exact ⟨rfl, belN2 _ _ _⟩
/-- What stays while RegsNone runs: the other Regs, of lists at most so long. -/
structure NJ (w : World) (B ro : Nat) (s : Rs) (H : List Rec) (i : Nat) (W : World) : Prop where
  ra : RgAt W B s H
  r : s.r = ro
  bel : Below w.heap.size w W
  le : ∀ q, (liOf s.P q).length ≤ i
  lo : w.heap.size ≤ B
  hi : B ≤ W.heap.size
def Np (pb : Nat) (p : PlK) (W : World) : Prop := W.heap[pb]? = some (.cells p.c.toArray 52 (0, 0))
theorem Np.below {pb : Nat} {p : PlK} {W W' : World} (h : Np pb p W) (b : Below W.heap.size W W') : Np pb p W' := (b.block _ (Array.getElem?_eq_some_iff.1 h).1).trans h
section
variable {w W W' : World} {B ro i pb : Nat} {s : Rs} {H : List Rec} {p : PlK}
theorem NJ.below (h : NJ w B ro s H i W) (b : Below W.heap.size W W') : NJ w B ro s H i W' := ⟨h.ra.below b, h.r, h.bel.trans (b.mono h.bel.size), h.le, h.lo, Nat.le_trans h.hi b.size⟩
theorem put_nil (ra : RgAt W B s H) (hb : B ≤ W.heap.size) (hp : p.ok) {x : IdK} (hx : x.ok) {v : VaV} (hv : v.ok) (hn : (liOf s.P p).length + 1 ≤ 2500000000000) : Calls Tryd.prog 16 #[.pointer (some ⟨s.r, 0, none⟩), p.v, x.v, v.v, .nilFunc] W (OpE W B s H p (liOf s.P p ++ [⟨x, v⟩])) := by
  have c := put_any ra hb hp hx hv (fv := .nilFunc) (sn := fun _ => false) (.inl ⟨rfl, fun _ => rfl⟩) hn
  have e : Rg.res (fun y : EnV => (fun _ : IdK => false) y.id) (liOf s.P p) = liOf s.P p := List.filter_eq_self.2 fun _ _ => rfl
  rw [e] at c
  exact c
/-- Behind a Put of the other. -/
def NF (w : World) (B ro : Nat) (H : List Rec) (i pb : Nat) (p : PlK) (bk : Nat) (W : World) : Prop := ∃ rc s', rc.bk = bk ∧ NJ w B ro s' (rc :: H) i W ∧ Np pb p W
theorem NJ.put (h : NJ w B ro s H i W) (np : Np pb p W) (hp : p.ok) {x : IdK} (hx : x.ok) {v : VaV} (hv : v.ok) (hn : i + 1 ≤ 2500000000000) : Calls Tryd.prog 16 #[.pointer (some ⟨ro, 0, none⟩), p.v, x.v, v.v, .nilFunc] W fun e w' => ∃ bk, e = .returned (.pointer (some ⟨bk, 0, none⟩)) ∧ (Below w.heap.size w w' ∧ Np pb p w') ∧ NF w B ro H (i + 1) pb p bk w' := by
  have c := put_nil h.ra h.hi hp hx hv (by have := h.le p; omega)
  rw [h.r] at c
  refine c.mono ?_
  rintro e w' ⟨rc, s', rfl, o⟩
  have bw : Below w.heap.size w w' := h.bel.trans (o.tch.below h.bel.size (fun j hj => Nat.le_trans h.lo (h.ra.mem.geAll hj)))
  have np' : Np pb p w' := (o.tch.block _ (Array.getElem?_eq_some_iff.1 np).1 (h.ra.mem.other np (by decide) (by decide))).trans np
  refine ⟨_, rfl, ⟨bw, np'⟩, rc, s', rfl, ⟨o.at', o.r.trans h.r, bw, fun q => ?_, h.lo, Nat.le_trans h.hi o.tch.size⟩, np'⟩
  rw [o.li]
  by_cases e : q = p
  · rw [if_pos e, List.length_append]
    have := h.le p
    simp
    omega
  · rw [if_neg e]
    have := h.le q
    omega
/-- The fresh one, behind its Put. -/
structure NR (rf B2 : Nat) (s2 : Rs) (rc2 : Rec) (p : PlK) (W : World) : Prop where
  ra : RgAt W B2 s2 [rc2]
  r : s2.r = rf
  li : (liOf s2.P p).length = 1
theorem fresh_put {W1 : World} {s2 : Rs} (ra : RgAt W1 W.heap.size s2 []) (b1 : Below W.heap.size W W1) (rl : ∀ q, liOf s2.P q = []) (hp : p.ok) {x : IdK} (hx : x.ok) {v : VaV} (hv : v.ok) : Calls Tryd.prog 16 #[.pointer (some ⟨s2.r, 0, none⟩), p.v, x.v, v.v, .nilFunc] W1 fun e w' => ∃ bk, e = .returned (.pointer (some ⟨bk, 0, none⟩)) ∧ Below W.heap.size W w' ∧ (Below W.heap.size W w' ∧ ∃ rc s3, NR s2.r W.heap.size s3 rc p w' ∧ W.heap.size ≤ rc.bk) := by
  refine (put_nil ra b1.size hp hx hv (by rw [rl]; simp)).mono ?_
  rintro e w' ⟨rc, s', rfl, o⟩
  have bw : Below W.heap.size W w' := b1.trans (o.tch.below b1.size (fun j hj => ra.mem.geAll hj))
  refine ⟨_, rfl, bw, bw, rc, s', ⟨o.at', o.r, ?_⟩, Nat.le_trans b1.size o.new⟩
  rw [o.li, if_pos rfl, rl]
  rfl
theorem pl_obj (h : Np pb p W) (hp : p.ok) : (Instr.loadAt 38 (.pointer (some ⟨pb, 0 + 0, none⟩))).run Tryd.prog W = .ok p.o.v W :=
  run_loadAt_mid (P := Tryd.prog) W pb 0 38 p.o.c _ (fun j v hv => rng_cells h j v (by rw [PlK.c, List.getElem?_append_left (List.getElem?_eq_some_iff.1 hv).1]; exact hv)) Tryd.underlying38 rfl (by rw [IdK.len hp.o]; exact szId)
theorem op_plc {b o : Nat} {x : OpR} (h : W.rangeAt b o x.c) : (Instr.loadAt 3 (.pointer (some ⟨b, o + 1, none⟩))).run Tryd.prog W = .ok (.int .i64 x.pl) W := by
  have hc : W.cell? ⟨b, o + 1, none⟩ = some (.int .i64 x.pl) := h 1 _ rfl
  go_simp
theorem op_idc {b o : Nat} {x : OpR} (hx : x.id.ok) (h : W.rangeAt b o x.c) : (Instr.loadAt 38 (.pointer (some ⟨b, o + 2, none⟩))).run Tryd.prog W = .ok x.id.v W :=
  run_loadAt_mid (P := Tryd.prog) W b (o + 2) 38 x.id.c _ (fun j v hv => by
    rw [Nat.add_assoc]
    exact h (2 + j) v (by
      rw [OpR.c, Nat.add_comm 2 j, List.getElem?_cons_succ, List.getElem?_cons_succ, List.getElem?_append_left (List.getElem?_eq_some_iff.1 hv).1]
      exact hv)) Tryd.underlying38 rfl (by rw [IdK.len hx]; exact szId)
theorem op_vac {b o : Nat} {x : OpR} (hx : x.id.ok) (h : W.rangeAt b o x.c) : (Instr.loadAt 42 (.pointer (some ⟨b, o + 35, none⟩))).run Tryd.prog W = .ok x.v.v W := ld_va (fun j v hv => by
    rw [Nat.add_assoc]
    exact h (35 + j) v (by
      rw [OpR.c, show 35 + j = (33 + j) + 1 + 1 by omega, List.getElem?_cons_succ, List.getElem?_cons_succ, List.getElem?_append_right (by rw [IdK.len hx]; omega), IdK.len hx, show 33 + j - 33 = j by omega, List.getElem?_append_left (List.getElem?_eq_some_iff.1 hv).1]
      exact hv))
theorem op_nc {b o : Nat} {x : OpR} (hx : x.id.ok) (h : W.rangeAt b o x.c) : (Instr.loadAt 2 (.pointer (some ⟨b, o + 39, none⟩))).run Tryd.prog W = .ok (.int .i64 x.n) W := by
  have hc : W.cell? ⟨b, o + 39, none⟩ = some (.int .i64 x.n) := h 39 _ (by
    rw [OpR.c, show 39 = (33 + 4) + 1 + 1 by rfl, List.getElem?_cons_succ, List.getElem?_cons_succ, List.getElem?_append_right (by rw [IdK.len hx]; omega), IdK.len hx, List.getElem?_append_right (by rw [VaV.len]; omega), VaV.len]
    rfl)
  go_simp
end
end Go.Proofs.YtldlljobofnmmaaDoor

namespace Go.Proofs.YtldlljobofnmmaaDoor
open Go.RowKit
set_option linter.unusedVariables false
set_option linter.unusedSimpArgs false

set_option maxRecDepth 100000 in
set_option maxHeartbeats 8000000 in
theorem none_all (pa : Option Addr) (pc : Nat) (Ps : List PlK) (a : Option Addr) (c : Nat) (L : List OpR) (w : World) (hP : RowAt 67 PlK.c w pa Ps) (okP : ∀ x ∈ Ps, x.ok) (hPn : Ps.length ≤ 2000000000000) (hL : RowAt 42 OpR.c w a L) (ok : ∀ x ∈ L, x.ok w) (hn : L.length ≤ 2000000000000) :
    Calls Tryd.prog 6 #[.slice pa Ps.length pc, .slice a L.length c] w fun e w' => e = .returned (.bool true) ∧ Below w.heap.size w w' := by
  obtain ⟨n, hnn⟩ : ∃ n, L.length = n := ⟨_, rfl⟩
  obtain ⟨pn, hpn⟩ : ∃ n, Ps.length = n := ⟨_, rfl⟩
  have HAT : Hid (∀ W, Below w.heap.size w W → ∀ m : Int, -9223372036854775808 ≤ m ∧ m ≤ 9223372036854775807 → Calls Tryd.prog 15 #[.slice pa pn pc, .int .i64 m] W fun e w' => e = .returned (atP Ps m).v ∧ Below W.heap.size W w') := by
    intro W b m hm
    rw [← hpn]
    exact at_any (hP.below b) okP hPn hm
  have HOK := hidMk (fun m => atP_ok okP m)
  have HL := hidMk (And.intro hL (And.intro ok hnn))
  rw [hnn] at hn ⊢
  rw [hpn]
  clear hP okP hPn hL ok hnn hpn
  have HA := hidMk (live_any w)
  have HN := hidMk newR_any
  go_enter Tryd.func6, Tryd.ntmps6
  go_wp2_with (first
    | (go_at_call 8; refine HA.out.mono ?_; rintro e w1 ⟨rfl, b1⟩; clear HA)
    | (go_at_call 9; refine (HN.out _).mono ?_; rintro e w2 ⟨so, rfl, ra, rl, rp, b2⟩)
    | fail)
  have hj0 : Hid (∃ s H, NJ w w1.heap.size so.r s H 0 w2) := ⟨so, [], ra, rfl, b1.trans (b2.mono b1.size), fun q => by rw [rl]; exact Nat.le_refl _, b1.size, b2.size⟩
  clear ra rl rp b1 b2
  generalize so.r = ro at *
  generalize w1.heap.size = B at *
  go_loopw [7] (fun v7 wr => ∃ i : Nat, v7 = .int .i64 (i : Int) ∧ i ≤ n ∧ Hid (∃ s H, NJ w B ro s H i wr)) (fun v7 wr => n - (match v7 with | .int _ i => i.toNat | _ => 0))
  case atStart => exact ⟨0, rfl, Nat.zero_le _, hj0⟩
  case round =>
    clear hj0
    obtain ⟨i, rfl, hin, HI⟩ := hrel
    by_cases hi : i < n
    · obtain ⟨s, H, nj'⟩ := HI.out
      obtain ⟨hL, ok, hnn⟩ := HL.out
      obtain ⟨x, hxi⟩ : ∃ x, L[i]? = some x := ⟨_, List.getElem?_eq_getElem (by omega)⟩
      have hxo : x.ok w := ok x (List.mem_of_getElem? hxi)
      obtain ⟨g, o, rfl, lg, hr⟩ : ∃ b o, a = some ⟨b, o, none⟩ ∧ b < w.heap.size ∧ w.rangeAt b (o + 42 * i) x.c := by
        rcases hL with rfl | ⟨b, o, e, h1, h2⟩
        · simp at hxi
        · exact ⟨b, o, e, h1, by rw [Nat.mul_comm]; exact h2 i x hxi⟩
      have HX := hidMk (fun (W : World) (hw : Below w.heap.size w W) => rangeAt_keep hr (hw.block _ lg))
      have HXO := hidMk hxo
      have NJ0 := hidMk nj'
      obtain ⟨p, hp0⟩ : ∃ p, atP Ps x.pl = p := ⟨_, rfl⟩
      have hp : p.ok := by rw [← hp0]; exact HOK.out _
      have CA : Hid (Calls Tryd.prog 15 #[.slice pa pn pc, .int .i64 x.pl] wr fun e w' => e = .returned p.v ∧ ∃ pb w1 w2, (Instr.alloc 52 true (.tuple #[])).run Tryd.prog w' = .ok (.pointer (some ⟨pb, 0, none⟩)) w1 ∧ (Instr.storeAt 52 (.pointer (some ⟨pb, 0, none⟩)) p.v).run Tryd.prog w1 = .ok () w2 ∧ (NJ w B ro s H i w2 ∧ Np pb p w2)) := by
        refine (HAT.out wr nj'.bel x.pl hxo.pl).mono ?_
        rintro e w' ⟨rfl, b⟩
        rw [hp0]
        obtain ⟨w1, w2, e1, e2, n2, b2⟩ := pl_new w' hp
        exact ⟨rfl, w'.heap.size, w1, w2, e1, e2, nj'.below (b.trans (b2.mono b.size)), n2⟩
      have h63 : n ≤ 9223372036854775807 := by omega
      clear hxi hr lg hL ok hnn nj' hp0 HI hxo
      go_upto_region 8 with fail
      refine none8 (g := g) (o := o) (n := n) (c := c) (i := i) (pn := pn) (pc := pc) (pa := pa) (p := p) (x := x) (fun pb W => NJ w B ro s H i W ∧ Np pb p W) _ wr _ rfl rfl rfl rfl hi h63 (fun W e => by rw [e]; exact op_plc (HX.out wr NJ0.out.bel)) CA.out ?_
      intro pb a' w3 hf ha
      subst ha
      simp only [Act.put, List.setIfInBounds_toArray, List.set_cons_zero, List.set_cons_succ]
      have J3 := hidMk (And.intro (hf.1.below (Below.refl w3.heap.size w3).drew) (hf.2.below (Below.refl w3.heap.size w3).drew))
      clear hf CA NJ0
      go_upto_region 9 with fail
      refine none9 (rb := ro) (pb := pb) (g := g) (o := o) (n := n) (c := c) (i := i) (p := p) (x := x) (fun W => Below w.heap.size w W ∧ Np pb p W) (NF w B ro H (i + 1) pb p) _ w3 _ rfl rfl rfl rfl rfl hi h63 ⟨J3.out.1.bel, J3.out.2⟩ (fun W h => ld_pl hp (rng_cells h.2)) (fun W h => op_idc HXO.out.id (HX.out W h.1)) (fun W h => op_vac HXO.out.id (HX.out W h.1)) (J3.out.1.put J3.out.2 hp HXO.out.id HXO.out.v (by omega)) ?_
      intro bk a' w4 hf ha
      subst ha
      simp only [Act.put, List.setIfInBounds_toArray, List.set_cons_zero, List.set_cons_succ]
      obtain ⟨rc, s', rfl, j4, p4⟩ := hf
      have J4 := hidMk (And.intro (j4.below (Below.refl w4.heap.size w4).drew) (p4.below (Below.refl w4.heap.size w4).drew))
      clear j4 p4 J3
      have CN : Hid (Calls Tryd.prog 16 #[.pointer none, p.v, x.id.v, x.v.v, .nilFunc] w4.drew fun e w1 => e = .returned (.pointer none) ∧ (NJ w B ro s' (rc :: H) (i + 1) w1 ∧ Np pb p w1) ∧ Calls Tryd.prog 17 #[.pointer none, p.v, .nilFunc] w1 fun e w2 => e = .returned (.pointer none) ∧ (NJ w B ro s' (rc :: H) (i + 1) w2 ∧ Np pb p w2) ∧ Calls Tryd.prog 18 #[.pointer none, p.v, .int .i64 x.n, .nilFunc] w2 fun e w3 => e = .returned (.pointer none) ∧ (NJ w B ro s' (rc :: H) (i + 1) w3 ∧ Np pb p w3) ∧ Calls Tryd.prog 19 #[.pointer none, .pointer (some ⟨rc.bk, 0, none⟩)] w3 fun e w4 => e = .returned (.int .i64 1) ∧ (NJ w B ro s' (rc :: H) (i + 1) w4 ∧ Np pb p w4)) := by
        refine (put_none p x.id x.v _ _).mono ?_
        rintro e v1 ⟨rfl, b1⟩
        have j1 := And.intro (J4.out.1.below b1) (J4.out.2.below b1)
        refine ⟨rfl, j1, (delete_none p _ _).mono ?_⟩
        rintro e v2 ⟨rfl, b2⟩
        have j2 := And.intro (j1.1.below b2) (j1.2.below b2)
        refine ⟨rfl, j2, (add_none p _ _ _).mono ?_⟩
        rintro e v3 ⟨rfl, b3⟩
        have j3 := And.intro (j2.1.below b3) (j2.2.below b3)
        refine ⟨rfl, j3, (undo_none _ _).mono ?_⟩
        rintro e v4 ⟨rfl, rfl⟩
        exact ⟨rfl, j3⟩
      go_upto_region 10 with fail
      refine none10 (pb := pb) (bk := rc.bk) (g := g) (o := o) (n := n) (c := c) (i := i) (p := p) (x := x) (fun W => NJ w B ro s' (rc :: H) (i + 1) W ∧ Np pb p W) _ w4 _ rfl rfl rfl rfl rfl rfl hi h63 J4.out (fun W h => ld_pl hp (rng_cells h.2)) (fun W h => op_idc HXO.out.id (HX.out W h.1.bel)) (fun W h => op_vac HXO.out.id (HX.out W h.1.bel)) (fun W h => op_nc HXO.out.id (HX.out W h.1.bel)) CN.out ?_
      intro a' w5 hf ha
      subst ha
      simp only [Act.put, List.setIfInBounds_toArray, List.set_cons_zero, List.set_cons_succ]
      have J5 := hidMk hf
      clear hf CN J4
      go_upto_region 13 with (first
        | (go_at_call 9; refine (HN.out _).mono ?_; rintro e w6 ⟨s2, rfl, ra, rl, rp, b6⟩)
        | fail)
      have RA6 := hidMk (And.intro (ra.below (Below.refl w6.heap.size w6).drew) (And.intro rl b6.drew))
      clear ra rl rp b6
      refine none13 (rb := s2.r) (pb := pb) (g := g) (o := o) (n := n) (c := c) (i := i) (p := p) (x := x) (fun W => Below w5.heap.size w5 W) (fun bk W => Below w5.heap.size w5 W ∧ ∃ rc s3, NR s2.r w5.heap.size s3 rc p W ∧ w5.heap.size ≤ rc.bk) _ w6 _ rfl rfl rfl rfl rfl hi h63 RA6.out.2.2 (fun W h => ld_pl hp (rng_cells (J5.out.2.below h))) (fun W h => op_idc HXO.out.id (HX.out W (J5.out.1.below h).bel)) (fun W h => op_vac HXO.out.id (HX.out W (J5.out.1.below h).bel)) (fresh_put RA6.out.1 RA6.out.2.2 RA6.out.2.1 hp HXO.out.id HXO.out.v) ?_
      intro bk2 a' w7 hf ha
      subst ha
      simp only [Act.put, List.setIfInBounds_toArray, List.set_cons_zero, List.set_cons_succ]
      obtain ⟨b7, rc2, s3, nr, hnew⟩ := hf
      have lbk := (Array.getElem?_eq_some_iff.1 J5.out.1.ra.hist.1.b).1
      have J7 := hidMk (And.intro (J5.out.1.below b7) (J5.out.2.below b7))
      have CU : Hid (Calls Tryd.prog 19 #[.pointer (some ⟨s2.r, 0, none⟩), .pointer (some ⟨rc.bk, 0, none⟩)] w7 fun e w' => e = .returned (.int .i64 2) ∧ w' = w7) := by
        have cc := undo_not nr.ra (bk := rc.bk) ⟨_, J7.out.1.ra.hist.1.b⟩ (by
          show some (⟨rc2.bk, 0, none⟩ : Addr) ≠ _
          intro e
          injection e with e
          injection e with e
          omega)
        rw [nr.r] at cc
        exact cc
      have CE : Hid (Calls Tryd.prog 20 #[.pointer (some ⟨s2.r, 0, none⟩), p.v] w7 fun e w' => ∃ ua uc, e = .returned (.slice ua 1 uc) ∧ Below w7.heap.size w7 w') := by
        have cc := entries_any nr.ra.mem hp (by rw [nr.li]; omega)
        rw [nr.r] at cc
        refine cc.mono ?_
        rintro e w' ⟨v, rfl, ou, b⟩
        obtain ⟨ua, uc, rfl⟩ := ou.form
        rw [nr.li]
        exact ⟨ua, uc, rfl, b⟩
      have LP7 := hidMk (ld_pl hp (rng_cells J7.out.2))
      clear b7 nr hnew lbk RA6 J5 HXO HX
      go_upto_region 16 with (first
        | (go_at_call 19; refine CU.out.mono ?_; rintro e w8 ⟨rfl, rfl⟩; clear CU)
        | (refine wpList_val rfl (exec_load (t := 52) (v := p.v) rfl rfl LP7.out) ?_)
        | (go_at_call 20; refine CE.out.mono ?_; rintro e w9 ⟨ua, uc, rfl, b9⟩; have J9 := hidMk (And.intro (J7.out.1.below b9) (J7.out.2.below b9)); clear CE b9 LP7 J7)
        | fail)
      have LP9 := hidMk (ld_pl hp (rng_cells J9.out.2))
      have CT := hidMk (top_none p w9)
      go_upto_region 17 with (first
        | (refine wpList_val rfl (exec_load (t := 52) (v := p.v) rfl rfl LP9.out) ?_)
        | (go_at_call 21; refine CT.out.mono ?_; rintro e wA ⟨rfl, bA⟩; obtain ⟨wB, eB, nB, bB⟩ := en_box wA; obtain ⟨wC, eC, nC, tC⟩ := en_put zEn_ok zEn_ok nB; have bC : Below wA.heap.size wA wC := bB.trans (tC.below bB.size (fun j e => by rw [e]; exact Nat.le_refl _)); have bAC := bA.trans (bC.mono bA.size); have JC := hidMk (And.intro (J9.out.1.below bAC) (And.intro (J9.out.2.below bAC) nC)); have EB := hidMk eB; have EC := hidMk eC; clear CT bA eB nB bB eC nC tC bC bAC LP9 J9)
        | (refine wpList_run rfl (exec_alloc (w2 := wB) rfl EB.out) ?_)
        | (refine wpList_skip rfl rfl (exec_store (w2 := wC) rfl rfl rfl EC.out) ?_)
        | fail)
      clear EB EC
      have CS : Hid (Calls Tryd.prog 22 #[zVa.v, zVa.v] wC fun e w1 => e = .returned (.bool true) ∧ (NJ w B ro s' (rc :: H) (i + 1) w1 ∧ Np pb p w1 ∧ RN.Bx w1 wA.heap.size zEn) ∧ Calls Tryd.prog 20 #[.pointer none, p.v] w1 fun e w2 => e = .returned (.slice none 0 0) ∧ (NJ w B ro s' (rc :: H) (i + 1) w2 ∧ Np pb p w2 ∧ RN.Bx w2 wA.heap.size zEn) ∧ Calls Tryd.prog 23 #[.pointer none, p.o.v] w2 fun e w3 => e = .returned (.slice none 0 0) ∧ (NJ w B ro s' (rc :: H) (i + 1) w3 ∧ Np pb p w3 ∧ RN.Bx w3 wA.heap.size zEn)) := by
        refine (same_zero _).mono ?_
        rintro e v1 ⟨rfl, b1⟩
        have j1 := And.intro (JC.out.1.below b1) (And.intro (JC.out.2.1.below b1) (JC.out.2.2.below b1))
        refine ⟨rfl, j1, (entries_none p _).mono ?_⟩
        rintro e v2 ⟨rfl, b2⟩
        have j2 := And.intro (j1.1.below b2) (And.intro (j1.2.1.below b2) (j1.2.2.below b2))
        refine ⟨rfl, j2, (keys_none p.o _).mono ?_⟩
        rintro e v3 ⟨rfl, b3⟩
        exact ⟨rfl, j2.1.below b3, j2.2.1.below b3, j2.2.2.below b3⟩
      refine none17 (pb := pb) (eb := wA.heap.size) (p := p) (fun W => NJ w B ro s' (rc :: H) (i + 1) W ∧ Np pb p W ∧ RN.Bx W wA.heap.size zEn) _ wC _ rfl rfl rfl rfl rfl build_v0 JC.out (fun W h => en_id (x := zEn) zEn_ok h.2.2.rng) (fun W h => en_va (x := zEn) zEn_ok h.2.2.rng) (fun W h => ld_pl hp (rng_cells h.2.1)) (fun W h => pl_obj h.2.1 hp) CS.out ?_
      intro a' wD hf ha
      subst ha
      simp only [Act.put, List.setIfInBounds_toArray, List.set_cons_zero, List.set_cons_succ]
      have JD := hidMk hf.1
      clear hf CS JC
      go_wp2
      rw [show ((i : Int) + 1) = ((i + 1 : Nat) : Int) by omega]
      refine ⟨⟨i + 1, rfl, hi, s', rc :: H, JD.out⟩, ?_⟩
      show n - ((i + 1 : Nat) : Int).toNat < n - (i : Int).toNat
      omega
    · obtain rfl : i = n := by omega
      have BE : Hid (Below w.heap.size w wr) := by
        obtain ⟨s, H, nj⟩ := HI.out
        exact nj.bel
      clear HI hin hi HL HAT HOK HN
      go_wp2_with (first
        | (go_at_call 13; refine (fork_none _).mono ?_; rintro e v1 ⟨rfl, rfl⟩)
        | (go_at_call 24; refine (len_none _).mono ?_; rintro e v2 ⟨rfl, rfl⟩)
        | (go_at_call 19; refine (undo_none _ _).mono ?_; rintro e v3 ⟨rfl, rfl⟩)
        | fail)
      go_ret
      exact ⟨rfl, BE.out⟩
end Go.Proofs.YtldlljobofnmmaaDoor

