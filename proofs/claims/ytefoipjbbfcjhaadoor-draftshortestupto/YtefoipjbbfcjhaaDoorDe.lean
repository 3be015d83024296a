import Derived.Test.YtefoipjbbfcjhaaDoorDc
namespace Go.Proofs.YtefoipjbbfcjhaaDoor
open Go.RowKit
set_option linter.unusedVariables false
set_option linter.unusedSimpArgs false

/-- A table: rows of numbers, in blocks of their own. -/
structure Tab (w0 wr : World) (base T ti : Nat) (k : IntKind) (lo n m : Nat) (B : Nat → Nat) (F : Nat → Nat → Nat) : Prop where
  bel : Below base w0 wr
  bT : base ≤ T
  lT : T < wr.heap.size
  top : ∀ i, i < n → wr.cell? ⟨T, i, none⟩ = some (if lo ≤ i then .slice (some ⟨B i, 0, none⟩) m m else .slice none 0 0)
  fz : ∀ i, wr.frozen? ⟨T, i, none⟩ = false
  row : ∀ i, lo ≤ i → i < n → wr.rowIs (B i) ti m (fun j => .int k (F i j : Int))
  inj : ∀ i j, lo ≤ i → i < n → lo ≤ j → j < n → B i = B j → i = j
  sep : ∀ i, lo ≤ i → i < n → B i ≠ T
  low : ∀ i, lo ≤ i → i < n → base ≤ B i
theorem Tab.at {w0 wr : World} {base T ti lo n m : Nat} {k : IntKind} {B : Nat → Nat} {F : Nat → Nat → Nat} (h : Tab w0 wr base T ti k lo n m B F) {i : Nat} (hl : lo ≤ i) (hi : i < n) : wr.cell? ⟨T, i, none⟩ = some (.slice (some ⟨B i, 0, none⟩) m m) := by
  rw [h.top i hi, if_pos hl]
theorem Tab.cell {w0 wr : World} {base T ti lo n m : Nat} {k : IntKind} {B : Nat → Nat} {F : Nat → Nat → Nat} (h : Tab w0 wr base T ti k lo n m B F) {i j : Nat} (hl : lo ≤ i) (hi : i < n) (hj : j < m) : wr.cell? ⟨B i, j, none⟩ = some (.int k (F i j : Int)) :=
  (h.row i hl hi).cell hj
theorem Tab.free {w0 wr : World} {base T ti lo n m : Nat} {k : IntKind} {B : Nat → Nat} {F : Nat → Nat → Nat} (h : Tab w0 wr base T ti k lo n m B F) {i : Nat} (hl : lo ≤ i) (hi : i < n) (j : Nat) : wr.frozen? ⟨B i, j, none⟩ = false :=
  (h.row i hl hi).frozen j
theorem Tab.drew {w0 wr : World} {base T ti lo n m : Nat} {k : IntKind} {B : Nat → Nat} {F : Nat → Nat → Nat} (h : Tab w0 wr base T ti k lo n m B F) (q : Nat) : Tab w0 (wr.drewN q) base T ti k lo n m B F :=
  ⟨below_drewN h.bel q, h.bT, h.lT, h.top, h.fz, h.row, h.inj, h.sep, h.low⟩
theorem Tab.set {w0 wr : World} {base T ti lo n m : Nat} {k : IntKind} {B : Nat → Nat} {F G : Nat → Nat → Nat} (h : Tab w0 wr base T ti k lo n m B F) {i j : Nat} (x : Nat) (hl : lo ≤ i) (hi : i < n) (hG : ∀ p q, q < m → G p q = if p = i ∧ q = j then x else F p q) :
    Tab w0 (wr.setCell ⟨B i, j, none⟩ (.int k (x : Int))) base T ti k lo n m B G := by
  refine ⟨h.bel.setCell (h.low i hl hi) _, h.bT, by simpa using h.lT, fun p hp => ?_, fun p => ?_, fun p hlp hp => ?_, h.inj, h.sep, h.low⟩
  · rw [World.cell?_of_block (w := wr) (a := ⟨T, p, none⟩) (Below.heap_setCell _ _ _ _ (fun e => h.sep i hl hi e.symm))]
    exact h.top p hp
  · rw [World.frozen?_of_block (w := wr) (a := ⟨T, p, none⟩) (Below.heap_setCell _ _ _ _ (fun e => h.sep i hl hi e.symm))]
    exact h.fz p
  · by_cases e : p = i
    · subst e
      refine ((h.row p hlp hp).set j _).congr fun q hq => ?_
      rw [hG p q hq]
      by_cases e2 : q = j
      · rw [if_pos e2, if_pos ⟨rfl, e2⟩]
      · rw [if_neg e2, if_neg (fun h => e2 h.2)]
    · refine ((h.row p hlp hp).setOther (fun e2 => e (h.inj p i hlp hp hl hi e2)) _).congr fun q hq => ?_
      rw [hG p q hq, if_neg (fun h => e h.1)]
theorem Tab.congr {w0 wr : World} {base T ti lo n m : Nat} {k : IntKind} {B : Nat → Nat} {F G : Nat → Nat → Nat} (h : Tab w0 wr base T ti k lo n m B F) (hG : ∀ p q, p < n → q < m → G p q = F p q) : Tab w0 wr base T ti k lo n m B G :=
  ⟨h.bel, h.bT, h.lT, h.top, h.fz, fun i hl hi => (h.row i hl hi).congr fun q hq => by rw [hG i q hi hq], h.inj, h.sep, h.low⟩
/-- What is filled when all from (i, j) on is done. -/
def fil (a b : List Nat) (i j p q : Nat) : Nat := if i < p ∨ (i = p ∧ j ≤ q) then lc a b p q else 0
theorem fil_zero (a b : List Nat) (p q : Nat) (hp : p < a.length + 1) : fil a b a.length 0 p q = 0 := by
  unfold fil
  split
  · exact lc_end a b p q (.inl (by omega))
  · rfl
theorem fil_row (a b : List Nat) (i p q : Nat) (hq : q < b.length + 1) : fil a b i b.length p q = fil a b (i + 1) 0 p q := by
  unfold fil
  by_cases h : i + 1 < p ∨ (i + 1 = p ∧ 0 ≤ q)
  · rw [if_pos h, if_pos (by omega)]
  · rw [if_neg h]
    split
    · exact lc_end a b p q (.inr (by omega))
    · rfl
theorem fil_step (a b : List Nat) (i j p q : Nat) : fil a b i j p q = if p = i ∧ q = j then lc a b i j else fil a b i (j + 1) p q := by
  unfold fil
  by_cases h : p = i ∧ q = j
  · rw [if_pos h, h.1, h.2, if_pos (by omega)]
  · rw [if_neg h]
    by_cases h2 : i < p ∨ (i = p ∧ j ≤ q)
    · rw [if_pos h2, if_pos (by omega)]
    · rw [if_neg h2, if_neg (by omega)]
theorem fil_at (a b : List Nat) (i j p q : Nat) (h : i < p ∨ (i = p ∧ j ≤ q)) : fil a b i j p q = lc a b p q := by
  unfold fil
  rw [if_pos h]
/-- A row that can be read. -/
def Rd (w : World) (a : Option Addr) (L : List Value) : Prop := ∀ j u, L[j]? = some u → ∃ g, a = some ⟨g, 0, none⟩ ∧ w.cell? ⟨g, j, none⟩ = some u
theorem Rd.below {w w' : World} {a : Option Addr} {L : List Value} (h : Rd w a L) (hb : Below w.heap.size w w') : Rd w' a L := fun j u hj => by
  obtain ⟨g, e, hc⟩ := h j u hj
  exact ⟨g, e, (hb.cell (p := ⟨g, j, none⟩) (World.block_lt_of_cell? _ _ hc)).trans hc⟩
theorem own_rd {w : World} {base e n c : Nat} {a : Option Addr} {L : List Value} (h : w.ownsRow base e 1 (.slice a n c) n L) : Rd w a L := fun j u hj => by
  rcases h.2 with ⟨e1, hn⟩ | ⟨g, cap, cur, e1, _⟩
  · have := h.1
    rw [hn] at this
    have := (List.getElem?_eq_some_iff.1 hj).1
    omega
  · cases e1
    have := World.ownsRow.cells h (g := g) rfl j u hj
    rw [Addr.add_mid, Nat.zero_add] at this
    exact ⟨g, rfl, this⟩
end Go.Proofs.YtefoipjbbfcjhaaDoor
