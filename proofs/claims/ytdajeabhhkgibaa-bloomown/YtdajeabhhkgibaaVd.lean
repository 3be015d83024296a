import Derived.Test.YtdajeabhhkgibaaVc
import Derived.Test.YtdajeabhhkgibaaHj
namespace Go.Proofs.Ytdajeabhhkgibaa
open Go.RowKit Go.Shelf
set_option linter.unusedVariables false
set_option linter.unusedSimpArgs false
attribute [local go_sem] Oper.semAt_some

theorem hb_box (w : World) (h : List UInt8) (hl : h.length = 32) (t : TypeId) : HB (w.alloc (.cells (bs h) t)) w.heap.size h := fun k hk => by
  have g := heap_alloc_new w (.cells (bs h) t)
  refine (cell_of_row _ _ k _ _ _ g).trans ?_
  rw [bs_get h k (by omega)]
  rfl
theorem range_box (w : World) (h : List UInt8) (t : TypeId) : (w.alloc (.cells (bs h) t)).rangeAt w.heap.size 0 (hcs h) := fun j v hv => by
  have g := heap_alloc_new w (.cells (bs h) t)
  rw [Nat.zero_add]
  refine (cell_of_row _ _ j _ _ _ g).trans ?_
  simpa [hcs] using hv
theorem at_ld {P : Program} {ops : Array Oper} {R : List Oper} {a : Act} {w : World} {Q : Exit → Act → World → Prop} {d : Option Tmp} {x : Operand} {ty : TypeId} {pos : String} {af : _} {g : _}
    (h : wpList P ops Q (⟨d, .load 30 x, ty, pos, af, g⟩ :: R) a w) : wpList P ops Q (⟨d, .load 30 x, ty, pos, af, g⟩ :: R) a w := h
theorem wpList_ld {ops : Array Oper} {rest : List Oper} {o : Oper} {a : Act} {w : World} {Q : Exit → Act → World → Prop} (x : Operand) (ho : o.op = .load 30 x) (hg : o.guard = none) (b k : Nat) (hx : a.eval x = .pointer (some ⟨b, k, none⟩)) (h : List UInt8) (hl : h.length = 32) (hr : w.rangeAt b k (hcs h))
    (hK : wpList Try.prog ops Q rest (a.put o.dst (.agg (bs h))) w) : wpList Try.prog ops Q (o :: rest) a w :=
  wpList_plain hg fun _ hK' => by
    have := loadH w b k h hl hr
    unfold Oper.wp execOp
    simp only [ho, hx, Sem.run_bind, this, Result.andThen_ok, Sem.run_pure]
    exact hK' _ _ hK
set_option maxRecDepth 100000 in
theorem spots_any (p : Option Addr) (h : List UInt8) (w : World) (hl : h.length = 32) :
    Calls Try.prog 42 #[.pointer p, .agg (bs h)] w fun e w' => e = .returned (.func (.func 98) #[] #[.pointer (some ⟨w.heap.size + 1, 0, none⟩), .pointer (some ⟨w.heap.size, 0, none⟩)]) ∧ w' = (w.alloc (.cells #[.pointer p] 23)).alloc (.cells (bs h) 30) := by
  go_enter Try.func42, Try.ntmps42
  go_wp2
  go_ret
  exact ⟨rfl, rfl⟩
/-- Bits set one behind the other. -/
def setAll {b : Nat} (ws : Nat → Nat) (l : List (Fin b)) : Nat → Nat := l.foldl (fun v x => setBit v x.val) ws
theorem setAll_snoc {b : Nat} (ws : Nat → Nat) (l : List (Fin b)) (x : Fin b) : setAll ws (l ++ [x]) = setBit (setAll ws l) x.val := by simp [setAll]
theorem setAll_lt {b : Nat} {ws : Nat → Nat} (h : ∀ i, ws i < 18446744073709551616) (l : List (Fin b)) : ∀ i, setAll ws l i < 18446744073709551616 := by
  induction l generalizing ws with
  | nil => exact h
  | cons x l ih => exact ih (fun i => setBit_lt h x.val i)
/-- A filter: its cells, its words. -/
structure FW (w : World) (q g bits probes : Nat) (ws : Nat → Nat) : Prop where
  fc : FC w q g bits probes
  wr : WR w g ((bits + 63) / 64) ws
theorem FW.of {w w' : World} {q g bits probes : Nat} {ws : Nat → Nat} (h : FW w q g bits probes ws) (e1 : w'.heap[q]? = w.heap[q]?) (e2 : w'.heap[g]? = w.heap[g]?) : FW w' q g bits probes ws := ⟨h.fc.of e1, h.wr.of_block e2⟩
theorem FW.below {w w' : World} {q g bits probes : Nat} {ws : Nat → Nat} (h : FW w q g bits probes ws) (hb : Below w.heap.size w w') : FW w' q g bits probes ws := h.of (hb.block _ h.fc.lt) (hb.block _ h.wr.lt)
/-- What holds between two rounds. -/
structure AI (w w0 : World) (q g bits probes bA : Nat) (ws : Nat → Nat) (W : World) : Prop where
  fw : FW W q g bits probes ws
  bx : W.cell? ⟨bA, 0, none⟩ = some (.pointer (some ⟨q, 0, none⟩))
  kb : Kb w.heap.size g w W
  sz : w0.heap.size ≤ W.heap.size
theorem AI.own {α : Type} (w w0 : World) (q g bits probes bA : Nat) (f : List α → Nat → Nat) (h1 : q < w0.heap.size) (h2 : g < w0.heap.size) (h3 : bA < w0.heap.size) (h4 : w.heap.size ≤ w0.heap.size) : OwnFrom w0.heap.size (fun pre W => AI w w0 q g bits probes bA (f pre) W) := by
  intro s W W' row hs hg hr
  have keep : ∀ k, k < w0.heap.size → W'.heap[k]? = W.heap[k]? := fun k hk => hg.block k (by have := hs.sz; omega) (fun e => by have := (hr k e.symm).1; omega)
  refine ⟨hs.fw.of (keep q h1) (keep g h2), (World.cell?_of_block (w := W) (a := ⟨bA, 0, none⟩) (keep bA h3)).trans hs.bx, hs.kb.trans ⟨hg.os, hg.tape, hg.output, hg.size, fun k hk _ => keep k (by omega)⟩, Nat.le_trans hs.sz hg.size⟩
theorem WR.cells {w : World} {g m : Nat} {ws : Nat → Nat} (h : WR w g m ws) {o : Obj} (ho : w.heap[g]? = some o) : o.isCells = true := by
  obtain ⟨c, h1, _⟩ := h
  rw [h1] at ho
  cases ho
  rfl
theorem boxes4 (w : World) (p : Option Addr) (h : List UInt8) (hl : h.length = 32) {W0 : World} (e : (((w.alloc (.cells #[.pointer p] 23)).alloc (.cells (bs h) 30)).alloc (.cells #[.pointer p] 23)).alloc (.cells (bs h) 30) = W0) :
    W0.heap.size = w.heap.size + 4 ∧ W0.cell? ⟨w.heap.size, 0, none⟩ = some (.pointer p) ∧ W0.cell? ⟨w.heap.size + 2, 0, none⟩ = some (.pointer p) ∧ HB W0 (w.heap.size + 3) h ∧ Below w.heap.size w W0 := by
  obtain ⟨w1, e1⟩ : ∃ x, w.alloc (.cells #[.pointer p] 23) = x := ⟨_, rfl⟩
  rw [e1] at e
  obtain ⟨w2, e2⟩ : ∃ x, w1.alloc (.cells (bs h) 30) = x := ⟨_, rfl⟩
  rw [e2] at e
  obtain ⟨w3, e3⟩ : ∃ x, w2.alloc (.cells #[.pointer p] 23) = x := ⟨_, rfl⟩
  rw [e3] at e
  have s1 : w1.heap.size = w.heap.size + 1 := by rw [← e1]; simp
  have s2 : w2.heap.size = w1.heap.size + 1 := by rw [← e2]; simp
  have s3 : w3.heap.size = w2.heap.size + 1 := by rw [← e3]; simp
  have s4 : W0.heap.size = w3.heap.size + 1 := by rw [← e]; simp
  have b1 : Below w.heap.size w w1 := by rw [← e1]; exact (Below.refl _ _).alloc (Nat.le_refl _) _
  have b2 : Below w1.heap.size w1 w2 := by rw [← e2]; exact (Below.refl _ _).alloc (Nat.le_refl _) _
  have b3 : Below w2.heap.size w2 w3 := by rw [← e3]; exact (Below.refl _ _).alloc (Nat.le_refl _) _
  have b4 : Below w3.heap.size w3 W0 := by rw [← e]; exact (Below.refl _ _).alloc (Nat.le_refl _) _
  have b34 : Below w2.heap.size w2 W0 := b3.trans (b4.mono (by omega))
  have b24 : Below w1.heap.size w1 W0 := b2.trans (b34.mono (by omega))
  have c1 : w1.cell? ⟨w.heap.size, 0, none⟩ = some (.pointer p) := by rw [← e1]; exact (cell_of_row _ _ 0 _ _ _ (heap_alloc_new w _)).trans rfl
  have c3 : w3.cell? ⟨w2.heap.size, 0, none⟩ = some (.pointer p) := by rw [← e3]; exact (cell_of_row _ _ 0 _ _ _ (heap_alloc_new w2 _)).trans rfl
  refine ⟨by omega, (b24.cell (p := ⟨w.heap.size, 0, none⟩) (by show w.heap.size < _; omega)).trans c1, ?_, ?_, b1.trans (b24.mono (by omega))⟩
  · rw [show w.heap.size + 2 = w2.heap.size by omega]
    exact (b4.cell (p := ⟨w2.heap.size, 0, none⟩) (by show w2.heap.size < _; omega)).trans c3
  · rw [show w.heap.size + 3 = w3.heap.size by omega, ← e]
    exact hb_box w3 h hl 30
set_option maxRecDepth 100000 in
set_option maxHeartbeats 4000000 in
theorem add_any (q g bits probes : Nat) (ws : Nat → Nat) (h : List UInt8) (w : World) (hl : h.length = 32) (hb0 : 0 < bits) (hb1 : bits ≤ 65536) (hp : probes ≤ 16) (hF : FW w q g bits probes ws) (hw : ∀ i, ws i < 18446744073709551616) :
    Calls Try.prog 12 #[.pointer (some ⟨q, 0, none⟩), .agg (bs h)] w fun e w' => e = .returned (.tuple #[]) ∧ FW w' q g bits probes (setAll ws (spotL h bits hb0 probes)) ∧ Kb w.heap.size g w w' := by
  refine (callsIn_wide (n := 4)).1 ?_
  refine callsIn_of_wp_marks Try.func12 rfl trivial ?_ rfl
  simp only [Try.ntmps12, List.size_toArray, List.length_cons, List.length_nil, Nat.reduceAdd, Nat.reduceSub, Array.replicate_succ, Array.replicate_zero, List.push_toArray, List.append_toArray, List.nil_append, List.cons_append]
  refine wpIn_wide.2 ?_
  have HR : Hid (((w.alloc (.cells #[.pointer (some ⟨q, 0, none⟩)] 23)).alloc (.cells (bs h) 30)).rangeAt (w.heap.size + 1) 0 (hcs h)) := by have := range_box (w.alloc (.cells #[.pointer (some ⟨q, 0, none⟩)] 23)) h 30; rwa [World.size_alloc] at this
  go_wp2_with (first
    | (with_reducible refine at_ld ?_; refine wpList_ld (.tmp 3) rfl rfl (w.heap.size + 1) 0 rfl h hl HR.out ?_)
    | (go_at_call 42; refine (spots_any _ h _ hl).mono ?_; rintro e w' ⟨rfl, hw⟩; subst hw)
    | fail)
  obtain ⟨W0, hW0⟩ : ∃ W0, (((w.alloc (.cells #[.pointer (some ⟨q, 0, none⟩)] 23)).alloc (.cells (bs h) 30)).alloc (.cells #[.pointer (some ⟨q, 0, none⟩)] 23)).alloc (.cells (bs h) 30) = W0 := ⟨_, rfl⟩
  obtain ⟨s0, k1, k2, k3, k4⟩ := boxes4 w _ h hl hW0
  rw [hW0]
  clear hW0 HR
  have lq : q < w.heap.size := hF.fc.lt
  have lg : g < w.heap.size := hF.wr.lt
  have F0 : FW W0 q g bits probes ws := hF.below k4
  refine (wpIn_wide (n := 4)).1 ?_
  refine wpIn_rangeFunc_ownF (F := Fence.wide) rfl (by omega) (gf := 98) (lb := #[.pointer (some ⟨w.heap.size + 1 + 1 + 1, 0, none⟩), .pointer (some ⟨w.heap.size + 1 + 1, 0, none⟩)]) rfl trivial (enters_of Try.func98 (by kernel_rfl) rfl)
    (spots1_stops (4 - 1) bits probes q g (w.heap.size + 1 + 1 + 1) (w.heap.size + 1 + 1) W0.heap.size h W0 hb0 hb1 hp k3 k2 F0.fc (by omega) (by omega) (by omega) (by omega) (Nat.le_refl _)) (fun h k => h.trans k) (Kb.put (Nat.le_refl _)) (Below.refl _ _) (fun _ => rfl)
    (fun pre W => AI w W0 q g bits probes w.heap.size (setAll ws pre) W)
    (fun _ _ _ => False)
    (AI.own w W0 q g bits probes w.heap.size (fun pre => setAll ws pre) (by omega) (by omega) (by omega) (by omega))
    (fun _ _ _ _ _ hs _ _ => hs)
    ⟨F0, k1, Kb.below k4, Nat.le_refl _⟩
    (fun x => { tmps := #[.pointer (some ⟨q, 0, none⟩), .agg (bs h), .pointer (some ⟨w.heap.size, 0, none⟩), .pointer (some ⟨w.heap.size + 1, 0, none⟩), .int .i64 (x.val : Int), .pointer (some ⟨q, 0, none⟩), .agg (bs h), .func (.func 98) #[] #[.pointer (some ⟨w.heap.size + 1 + 1 + 1, 0, none⟩), .pointer (some ⟨w.heap.size + 1 + 1, 0, none⟩)], .int .i64 (x.val : Int), undef, undef, undef, undef, undef, undef], defers := [] }) ?assign ?body ?done ?stop
  case assign =>
    intro l x W K hK
    gi_wp2
    exact hK
  case body =>
    rintro l pre x W hI _
    have c2 := hI.fw.fc.c2
    have bx := hI.bx
    have hd : x.val / 64 < (bits + 63) / 64 := by have := x.isLt; omega
    have HPut := Hid.mk' (put_any g ((bits + 63) / 64) x.val (setAll ws pre) W hI.fw.wr (setAll_lt hw pre) hd (by have := x.isLt; omega) (by omega))
    have HI := Hid.mk' hI
    clear hI
    gi_wp2_with (refine ⟨trivial, ?_⟩; gi_at_call 43; refine (CallsIn.inRound l (callsIn_wide.2 HPut.out)).mono ?_; rintro e W' ⟨rfl, hwr, hgr⟩)
    have hI := HI.out
    have hq : q ≠ g := fun e => hI.fw.fc.ne e.symm
    have hsz := hI.sz
    refine ⟨KeepsOthers.of_grownBy hgr (fun j o e ho => by cases e; exact hI.fw.wr.cells ho), Kb.grown hgr hsz, ⟨hI.fw.fc.of (hgr.block q (by omega) (fun e => hq (by cases e; rfl))), by rw [setAll_snoc]; exact hwr⟩, ?_, hI.kb.trans (Kb.grown hgr (by omega)), Nat.le_trans hsz hgr.size⟩
    exact (World.cell?_of_block (w := W) (a := ⟨w.heap.size, 0, none⟩) (hgr.block w.heap.size (by omega) (fun e => by cases e; omega))).trans hI.bx
  case done =>
    rintro D ys W hD rfl hI hK
    gi_wp2
    refine ⟨by simp, .inl ⟨_, _, rfl, run_takeDeferred hK, ?_⟩⟩
    have kp := Kb.put (g := g) (Nat.le_refl W0.heap.size) W D _ (.deferred none) hD hK rfl rfl
    exact ⟨_, results_none rfl _ _ _, rfl, hI.fw.of (World.putObj_heap_other (by omega)) (World.putObj_heap_other (by omega)), hI.kb.trans (kp.mono (by omega))⟩
  case stop =>
    rintro D c pre W _ _ h _
    exact h.elim
end Go.Proofs.Ytdajeabhhkgibaa
