import Derived.Test.YtpmdlhlojifoeaaDoorHc
namespace Go.Proofs.YtpmdlhlojifoeaaDoor
open Go.RowKit
set_option linter.unusedVariables false
set_option linter.unusedSimpArgs false

theorem HL.below {B : Nat} {T : Nat → Nat} {w w' : World} {lv : Value} {E : List (Option (Nat × List UInt8))} (h : HL B T w lv E) (b : Below w.heap.size w w') (i : Nat) : HL B (nw T w i) w' lv E := by
  refine ⟨ownsRow_keep h.own fun c hc => b.block c (World.ownsRow.lt h.own c hc).2, fun c hc => by rw [nw_old (World.ownsRow.lt h.own c hc).2]; exact h.tag c hc, fun j g m hj => ?_⟩
  obtain ⟨r, h1, h2⟩ := h.rep j g m hj
  exact ⟨rep_of r (b.block g (rep_lt r)), h1, by rw [nw_old (rep_lt r)]; exact h2⟩
theorem HM.below {B : Nat} {T : Nat → Nat} {w w' : World} {lv : Value} {E : List (Option (Nat × Value × List UInt8))} (h : HM B T w lv E) (b : Below w.heap.size w w') (i : Nat) : HM B (nw T w i) w' lv E := by
  refine ⟨ownsRow_keep h.own fun c hc => b.block c (World.ownsRow.lt h.own c hc).2, fun c hc => by rw [nw_old (World.ownsRow.lt h.own c hc).2]; exact h.tag c hc, fun j g v m hj => ?_⟩
  obtain ⟨r, h1, h2, h3⟩ := h.rep j g v m hj
  exact ⟨r.keep (b.block g r.lt) fun c hc => b.block c (World.ownsRow.lt r.2 c hc).2, h1, by rw [nw_old r.lt]; exact h2, fun c hc => by rw [nw_old (World.ownsRow.lt r.2 c hc).2]; exact h3 c hc⟩

/-- All that is held in a round: both lists, and the step in a block of its own. -/
structure St (B : Nat) (T : Nat → Nat) (w wr : World) (g : Nat) (ob : Array Value) (lv mv : Value) (E : List (Option (Nat × List UInt8))) (F : List (Option (Nat × Value × List UInt8))) : Prop where
  l : HL B T wr lv E
  m : HM B T wr mv F
  o : wr.heap[g]? = some (.cells ob 42 (0, 0))
  og : B ≤ g
  ot : T g = 2
  b : Below B w wr
  z : B ≤ wr.heap.size
section
variable {B : Nat} {T : Nat → Nat} {w wr w' : World} {g : Nat} {ob : Array Value} {lv mv lv' mv' : Value} {E : List (Option (Nat × List UInt8))} {F : List (Option (Nat × Value × List UInt8))}
theorem St.gl (h : St B T w wr g ob lv mv E F) : g < wr.heap.size := (Array.getElem?_eq_some_iff.1 h.o).1
theorem St.below (h : St B T w wr g ob lv mv E F) (b : Below wr.heap.size wr w') (i : Nat) : St B (nw T wr i) w w' g ob lv mv E F :=
  ⟨h.l.below b i, h.m.below b i, by rw [b.block g h.gl]; exact h.o, h.og, by rw [nw_old h.gl]; exact h.ot, h.b.trans (b.mono h.z), Nat.le_trans h.z b.size⟩
theorem St.appL (h : St B T w wr g ob lv mv E F) (x : Option (Nat × List UInt8)) (hx : ∀ g m, x = some (g, m) → Rep wr g m ∧ B ≤ g ∧ T g = 2 * E.length + 4)
    (own' : w'.ownsRow B 35 1 lv' (E.length + 1) (E.map pl ++ [.pointer (pa x)])) (gr : wr.grownBy w' lv.ownBlock) (at' : lv'.ownBlock = lv.ownBlock ∨ lv'.ownBlock = some wr.heap.size) :
    St B (nw T wr 0) w w' g ob lv' mv (E ++ [x]) F := by
  obtain ⟨h1, f⟩ := h.l.app x hx own' gr at'
  exact ⟨h1, h.m.keep f (by decide), by rw [f.block g h.gl (.inr (by rw [h.ot]; decide))]; exact h.o, h.og, by rw [nw_old h.gl]; exact h.ot, h.b.trans (f.below h.z), Nat.le_trans h.z f.size⟩
theorem St.appM (h : St B T w wr g ob lv mv E F) (x : Option (Nat × Value × List UInt8)) (hx : ∀ g v m, x = some (g, v, m) → RR B wr g v m ∧ B ≤ g ∧ T g = 2 * F.length + 5 ∧ ∀ b, v.ownBlock = some b → T b = 2 * F.length + 5)
    (own' : w'.ownsRow B 38 1 mv' (F.length + 1) (F.map pm ++ [.pointer (pb x)])) (gr : wr.grownBy w' mv.ownBlock) (at' : mv'.ownBlock = mv.ownBlock ∨ mv'.ownBlock = some wr.heap.size) :
    St B (nw T wr 1) w w' g ob lv mv' E (F ++ [x]) := by
  obtain ⟨h1, f⟩ := h.m.app x hx own' gr at'
  exact ⟨h.l.keep f (by decide), h1, by rw [f.block g h.gl (.inr (by rw [h.ot]; decide))]; exact h.o, h.og, by rw [nw_old h.gl]; exact h.ot, h.b.trans (f.below h.z), Nat.le_trans h.z f.size⟩
theorem St.setL (h : St B T w wr g ob lv mv E F) {j : Nat} {E' : List (Option (Nat × List UInt8))} (h1 : HL B (nw T wr (2 * j + 4)) w' lv E') (f : Fr B T (2 * j + 4) wr w') : St B (nw T wr (2 * j + 4)) w w' g ob lv mv E' F :=
  ⟨h1, h.m.keep f (by omega), by rw [f.block g h.gl (.inr (by rw [h.ot]; omega))]; exact h.o, h.og, by rw [nw_old h.gl]; exact h.ot, h.b.trans (f.below h.z), Nat.le_trans h.z f.size⟩
theorem St.setM (h : St B T w wr g ob lv mv E F) {j : Nat} {F' : List (Option (Nat × Value × List UInt8))} (h1 : HM B (nw T wr (2 * j + 5)) w' mv F') (f : Fr B T (2 * j + 5) wr w') : St B (nw T wr (2 * j + 5)) w w' g ob lv mv E F' :=
  ⟨h.l.keep f (by omega), h1, by rw [f.block g h.gl (.inr (by rw [h.ot]; omega))]; exact h.o, h.og, by rw [nw_old h.gl]; exact h.ot, h.b.trans (f.below h.z), Nat.le_trans h.z f.size⟩
theorem St.other (h : St B T w wr g ob lv mv E F) {c : Nat} (bu : But c wr w') (hc : B ≤ c) (ht : T c = 2) (hg : g ≠ c) : St B (nw T wr 2) w w' g ob lv mv E F := by
  have f : Fr B T 2 wr w' := Fr.of_but bu hc ht
  exact ⟨h.l.keep f (.inr rfl), h.m.keep f (by decide), by rw [bu.block g h.gl hg]; exact h.o, h.og, by rw [nw_old h.gl]; exact h.ot, h.b.trans (f.below h.z), Nat.le_trans h.z f.size⟩
theorem St.inv (h : St B T w wr g ob lv mv E F) {q k : Nat} (hC : E.map cL = F.map cM) (h1 : 1 ≤ E.length) (h2 : E.length ≤ k + 1) (h3 : ∀ e, e ∈ E → Small (cL e) q) : ∃ T E F, HL B T wr lv E ∧ HM B T wr mv F ∧ E.map cL = F.map cM ∧ 1 ≤ E.length ∧ E.length ≤ k + 1 ∧ (∀ e, e ∈ E → Small (cL e) q) ∧ Below B w wr ∧ B ≤ wr.heap.size :=
  ⟨T, E, F, h.l, h.m, hC, h1, h2, h3, h.b, h.z⟩
end
theorem cells_at {w : World} {g : Nat} {x y z : Value} {t : TypeId} (h : w.heap[g]? = some (.cells #[x, y, z] t (0, 0))) : w.cell? ⟨g, 0, none⟩ = some x ∧ w.cell? ⟨g, 1, none⟩ = some y ∧ w.cell? ⟨g, 2, none⟩ = some z :=
  ⟨cell_of_row w g 0 _ _ _ h, cell_of_row w g 1 _ _ _ h, cell_of_row w g 2 _ _ _ h⟩
theorem map_at {E : List (Option (Nat × List UInt8))} {F : List (Option (Nat × Value × List UInt8))} (h : E.map cL = F.map cM) {j : Nat} {e : Option (Nat × List UInt8)} {f : Option (Nat × Value × List UInt8)} (he : E[j]? = some e) (hf : F[j]? = some f) : cL e = cM f := by
  have := congrArg (fun l => l[j]?) h
  simpa [he, hf] using this
theorem nil_alike {e : Option (Nat × List UInt8)} {f : Option (Nat × Value × List UInt8)} (h : cL e = cM f) : (pa e = none ∧ pb f = none) ∨ (∃ a b, pa e = some a ∧ pb f = some b) := by
  cases e <;> cases f <;> simp_all [cL, cM, pa, pb]
end Go.Proofs.YtpmdlhlojifoeaaDoor
