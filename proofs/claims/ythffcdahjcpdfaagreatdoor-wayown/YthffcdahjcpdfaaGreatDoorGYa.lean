import Derived.Test.YthffcdahjcpdfaaGreatDoorRows
import Derived.WalkKit
import Derived.WalkSpells
import Derived.WalkLawsBesides
import Derived.Lib.Bytealg
import Derived.Deep.RegionHeld3
import Derived.Deep.Cut
namespace Go.Proofs.YthffcdahjcpdfaaGreatDoor
open Go.RowKit
set_option linter.unusedVariables false
set_option linter.unusedSimpArgs false

def Hid (p : Prop) : Prop := p
theorem Hid.out {p : Prop} (h : Hid p) : p := h
theorem Hid.mk' {p : Prop} (h : p) : Hid p := h
/-- How two numbers stand: -1, 0, 1. -/
def cI (a b : Int) : Int := if a < b then -1 else if b < a then 1 else 0
/-- How two texts stand. -/
def cS (a b : ByteArray) : Int := if Op.bytesLess a.toList b.toList = true then -1 else if (a.toList == b.toList) = true then 0 else 1
/-! ### texts by their bytes -/
theorem bl_irrefl : ∀ l : List UInt8, Op.bytesLess l l = false
  | [] => rfl
  | a :: x => by
    unfold Op.bytesLess
    simp [bl_irrefl x]
theorem bl_cons (a b : UInt8) (x y : List UInt8) : Op.bytesLess (a :: x) (b :: y) = true ↔ a.toNat < b.toNat ∨ (a = b ∧ Op.bytesLess x y = true) := by
  rw [Op.bytesLess]
  simp [UInt8.lt_iff_toNat_lt]
theorem bl_asymm : ∀ {a b : List UInt8}, Op.bytesLess a b = true → Op.bytesLess b a = false
  | [], [], h => by simp [Op.bytesLess] at h
  | [], _ :: _, _ => rfl
  | _ :: _, [], h => by simp [Op.bytesLess] at h
  | a :: x, b :: y, h => by
    cases hq : Op.bytesLess (b :: y) (a :: x) with
    | false => rfl
    | true =>
      rw [bl_cons] at h hq
      rcases h with h | ⟨rfl, h⟩
      · rcases hq with q | ⟨rfl, q⟩ <;> omega
      · rcases hq with q | ⟨_, q⟩
        · omega
        · rw [bl_asymm h] at q; cases q
theorem bl_total : ∀ {a b : List UInt8}, Op.bytesLess a b = false → Op.bytesLess b a = false → a = b
  | [], [], _, _ => rfl
  | [], _ :: _, h, _ => by simp [Op.bytesLess] at h
  | _ :: _, [], _, h => by simp [Op.bytesLess] at h
  | a :: x, b :: y, h1, h2 => by
    have e1 : ¬ (a.toNat < b.toNat ∨ (a = b ∧ Op.bytesLess x y = true)) := by rw [← bl_cons, h1]; simp
    have e2 : ¬ (b.toNat < a.toNat ∨ (b = a ∧ Op.bytesLess y x = true)) := by rw [← bl_cons, h2]; simp
    have e : a = b := UInt8.toNat_inj.1 (by omega)
    subst e
    have h3 : Op.bytesLess x y = false := by cases hq : Op.bytesLess x y with | false => rfl | true => exact absurd (.inr ⟨rfl, hq⟩) e1
    have h4 : Op.bytesLess y x = false := by cases hq : Op.bytesLess y x with | false => rfl | true => exact absurd (.inr ⟨rfl, hq⟩) e2
    rw [bl_total h3 h4]
theorem bl_trans : ∀ {a b c : List UInt8}, Op.bytesLess a b = true → Op.bytesLess b c = true → Op.bytesLess a c = true
  | _, [], _, h, _ => by cases ‹List UInt8› <;> simp [Op.bytesLess] at h
  | _, _ :: _, [], _, h => by simp [Op.bytesLess] at h
  | [], _ :: _, _ :: _, _, _ => rfl
  | a :: x, b :: y, c :: z, h1, h2 => by
    rw [bl_cons] at h1 h2 ⊢
    rcases h1 with h1 | ⟨rfl, h1⟩
    · rcases h2 with h2 | ⟨rfl, h2⟩ <;> exact .inl (by omega)
    · rcases h2 with h2 | ⟨rfl, h2⟩
      · exact .inl h2
      · exact .inr ⟨rfl, bl_trans h1 h2⟩

/-! ### orders, one behind the other -/
structure TO {α : Type} (c : α → α → Int) : Prop where
  anti : ∀ a b, c b a = - c a b
  le : ∀ a b d, c a b ≤ 0 → c b d ≤ 0 → c a d ≤ 0
  lt : ∀ a b d, c a b ≤ 0 → c b d ≤ 0 → (c a b < 0 ∨ c b d < 0) → c a d < 0
theorem TO.zero {α : Type} {c : α → α → Int} (h : TO c) {a b d : α} (h1 : c a b = 0) (h2 : c b d = 0) : c a d = 0 := by
  have e1 := h.le a b d (by omega) (by omega)
  have e2 := h.le d b a (by rw [h.anti]; omega) (by rw [h.anti]; omega)
  rw [h.anti] at e2
  omega
def or2 (a b : Int) : Int := if a = 0 then b else a
theorem TO.lex {α β : Type} {c : α → α → Int} {d : β → β → Int} (hc : TO c) (hd : TO d) : TO (fun (p q : α × β) => or2 (c p.1 q.1) (d p.2 q.2)) := by
  refine ⟨fun a b => ?_, fun a b e h1 h2 => ?_, fun a b e h1 h2 h3 => ?_⟩
  · simp only [or2]
    have := hc.anti a.1 b.1
    have := hd.anti a.2 b.2
    split <;> split <;> omega
  · simp only [or2] at *
    have := hc.le a.1 b.1 e.1
    have := hc.lt a.1 b.1 e.1
    have := @TO.zero _ _ hc a.1 b.1 e.1
    have := hd.le a.2 b.2 e.2
    split at h1 <;> split at h2 <;> split <;> omega
  · simp only [or2] at *
    have := hc.le a.1 b.1 e.1
    have := hc.lt a.1 b.1 e.1
    have := @TO.zero _ _ hc a.1 b.1 e.1
    have := hd.le a.2 b.2 e.2
    have := hd.lt a.2 b.2 e.2
    split at h1 <;> split at h2 <;> split <;> split at h3 <;> (try split at h3) <;> omega
theorem to_cI : TO cI := by
  refine ⟨fun a b => ?_, fun a b d => ?_, fun a b d => ?_⟩ <;> simp only [cI] <;> repeat' split
  all_goals omega
theorem cS_val (a b : ByteArray) : (Op.bytesLess a.toList b.toList = true ∧ cS a b = -1) ∨ (a.toList = b.toList ∧ cS a b = 0) ∨ (Op.bytesLess b.toList a.toList = true ∧ cS a b = 1) := by
  unfold cS
  cases h1 : Op.bytesLess a.toList b.toList with
  | true => exact .inl ⟨rfl, by simp⟩
  | false =>
    cases h2 : Op.bytesLess b.toList a.toList with
    | true =>
      have hne : ¬ a.toList = b.toList := fun e => by rw [e, bl_irrefl] at h2; cases h2
      exact .inr (.inr ⟨rfl, by simp [hne]⟩)
    | false =>
      have e := bl_total h1 h2
      exact .inr (.inl ⟨e, by simp [e]⟩)
theorem to_cS : TO cS := by
  refine ⟨fun a b => ?_, fun a b d h1 h2 => ?_, fun a b d h1 h2 h3 => ?_⟩
  · rcases cS_val a b with ⟨p, e⟩ | ⟨p, e⟩ | ⟨p, e⟩ <;> rcases cS_val b a with ⟨q, g⟩ | ⟨q, g⟩ | ⟨q, g⟩
    all_goals first
      | (rw [e, g]; done)
      | (rw [e, g]; rfl)
      | (exfalso; rw [bl_asymm p] at q; cases q; done)
      | (exfalso; rw [q, bl_irrefl] at p; cases p; done)
      | (exfalso; rw [p, bl_irrefl] at q; cases q; done)
  · rcases cS_val a b with ⟨p, e⟩ | ⟨p, e⟩ | ⟨p, e⟩ <;> rcases cS_val b d with ⟨q, g⟩ | ⟨q, g⟩ | ⟨q, g⟩ <;> rcases cS_val a d with ⟨r, i⟩ | ⟨r, i⟩ | ⟨r, i⟩ <;> (try omega)
    · have := bl_trans p q; rw [bl_asymm this] at r; cases r
    · rw [q] at p; rw [bl_asymm p] at r; cases r
    · rw [← p] at q; rw [bl_asymm q] at r; cases r
    · rw [p, q, bl_irrefl] at r; cases r
  · rcases cS_val a b with ⟨p, e⟩ | ⟨p, e⟩ | ⟨p, e⟩ <;> rcases cS_val b d with ⟨q, g⟩ | ⟨q, g⟩ | ⟨q, g⟩ <;> rcases cS_val a d with ⟨r, i⟩ | ⟨r, i⟩ | ⟨r, i⟩ <;> (try omega)
    · have := bl_trans p q; rw [r, bl_irrefl] at this; cases this
    · have := bl_trans p q; rw [bl_asymm this] at r; cases r
    · rw [q, ← r, bl_irrefl] at p; cases p
    · rw [q] at p; rw [bl_asymm p] at r; cases r
    · rw [← p, r, bl_irrefl] at q; cases q
    · rw [← p] at q; rw [bl_asymm q] at r; cases r
theorem cmpB : ∀ (x y : List UInt8), Lib.compareBytes x y = if Op.bytesLess x y = true then -1 else if (x == y) = true then 0 else 1
  | [], [] => by simp [Lib.compareBytes, Op.bytesLess]
  | [], _ :: _ => by simp [Lib.compareBytes, Op.bytesLess]
  | _ :: _, [] => by simp [Lib.compareBytes, Op.bytesLess]
  | a :: x, b :: y => by
    unfold Lib.compareBytes
    rw [cmpB x y]
    by_cases h1 : a < b
    · have : Op.bytesLess (a :: x) (b :: y) = true := (bl_cons a b x y).2 (.inl (UInt8.lt_iff_toNat_lt.1 h1))
      rw [if_pos h1, if_pos this]
    · rw [if_neg h1]
      have h1' : ¬ a.toNat < b.toNat := fun h => h1 (UInt8.lt_iff_toNat_lt.2 h)
      by_cases h2 : b < a
      · have h2' : b.toNat < a.toNat := UInt8.lt_iff_toNat_lt.1 h2
        have n1 : ¬ Op.bytesLess (a :: x) (b :: y) = true := by
          rw [bl_cons]
          rintro (h | ⟨rfl, _⟩) <;> omega
        have n2 : ¬ ((a :: x) == (b :: y)) = true := by
          intro h
          have : a = b := by simpa using (List.cons.inj (by simpa using h : a :: x = b :: y)).1
          subst this
          omega
        rw [if_pos h2, if_neg n1, if_neg n2]
      · have e : a = b := UInt8.toNat_inj.1 (by have : ¬ b.toNat < a.toNat := fun h => h2 (UInt8.lt_iff_toNat_lt.2 h); omega)
        subst e
        rw [if_neg h2]
        have q1 : (Op.bytesLess (a :: x) (a :: y) = true) ↔ (Op.bytesLess x y = true) := by rw [bl_cons]; simp
        have q2 : (((a :: x) == (a :: y)) = true) ↔ ((x == y) = true) := by simp
        simp only [q1, q2]
theorem cmpS (a b : ByteArray) : Lib.compareBytes a.data.toList b.data.toList = cS a b := by
  rw [cmpB]
  unfold cS
  simp only [ByteArray.toList_eq]
end Go.Proofs.YthffcdahjcpdfaaGreatDoor

namespace Go.Proofs.YthffcdahjcpdfaaGreatDoor
open Go.RowKit
set_option linter.unusedVariables false
set_option linter.unusedSimpArgs false

/-- The first of three numbers that is not 0. -/
def or3 (a b c : Int) : Int := if a = 0 then (if b = 0 then c else b) else a
def sel3 (a b c : Int) (k : Nat) : Int := if k = 0 then a else if k = 1 then b else c
/-- A step: its kind, its key, its number. -/
structure St where
  k : Int
  s : ByteArray
  n : Int
def St.c (p : St) : Array Value := #[.int .u8 p.k, .string p.s, .int .i64 p.n]
/-- How two steps stand. -/
def cSt (p q : St) : Int := or3 (cI p.k q.k) (cS p.s q.s) (cI p.n q.n)
theorem to_cSt : TO cSt := by
  have h := to_cI.lex (to_cS.lex to_cI)
  exact ⟨fun a b => h.anti (a.k, a.s, a.n) (b.k, b.s, b.n), fun a b d => h.le (a.k, a.s, a.n) (b.k, b.s, b.n) (d.k, d.s, d.n), fun a b d => h.lt (a.k, a.s, a.n) (b.k, b.s, b.n) (d.k, d.s, d.n)⟩
theorem cI_bd (a b : Int) : -1 ≤ cI a b ∧ cI a b ≤ 1 := by unfold cI; repeat' split <;> omega
theorem cS_bd (a b : ByteArray) : -1 ≤ cS a b ∧ cS a b ≤ 1 := by rcases cS_val a b with ⟨_, e⟩ | ⟨_, e⟩ | ⟨_, e⟩ <;> rw [e] <;> omega
theorem cSt_bd (p q : St) : -1 ≤ cSt p q ∧ cSt p q ≤ 1 := by
  have := cI_bd p.k q.k
  have := cS_bd p.s q.s
  have := cI_bd p.n q.n
  unfold cSt or3
  repeat' split
  all_goals omega
theorem cI_zero {a b : Int} : cI a b = 0 ↔ a = b := by
  unfold cI
  constructor
  · intro h; split at h
    · omega
    · split at h <;> omega
  · rintro rfl; rw [if_neg (by omega), if_neg (by omega)]
theorem cS_zero {a b : ByteArray} : cS a b = 0 ↔ a = b := by
  have ext : a.toList = b.toList ↔ a = b := by
    rw [ByteArray.toList_eq, ByteArray.toList_eq]
    constructor
    · intro h
      obtain ⟨⟨x⟩⟩ := a
      obtain ⟨⟨y⟩⟩ := b
      simp at h
      subst h
      rfl
    · rintro rfl; rfl
  rw [← ext]
  rcases cS_val a b with ⟨p, e⟩ | ⟨p, e⟩ | ⟨p, e⟩ <;> rw [e]
  · constructor
    · intro h; omega
    · intro h; rw [h, bl_irrefl] at p; cases p
  · exact ⟨fun _ => p, fun _ => rfl⟩
  · constructor
    · intro h; omega
    · intro h; rw [h, bl_irrefl] at p; cases p
theorem cSt_zero {p q : St} : cSt p q = 0 ↔ p = q := by
  obtain ⟨k, s, n⟩ := p
  obtain ⟨k', s', n'⟩ := q
  have a := @cI_zero k k'
  have b := @cS_zero s s'
  have c := @cI_zero n n'
  simp only [cSt, or3, St.mk.injEq]
  rw [← a, ← b, ← c]
  constructor
  · intro h
    split at h
    · split at h
      · rename_i h1 h2; exact ⟨h1, h2, h⟩
      · omega
    · omega
  · rintro ⟨h1, h2, h3⟩
    rw [if_pos h1, if_pos h2, h3]
/-- How two ways stand. -/
def cL : List St → List St → Int
  | [], [] => 0
  | [], _ :: _ => -1
  | _ :: _, [] => 1
  | a :: x, b :: y => or2 (cSt a b) (cL x y)
theorem cL_bd : ∀ (x y : List St), -1 ≤ cL x y ∧ cL x y ≤ 1
  | [], [] => by simp [cL]
  | [], _ :: _ => by simp [cL]
  | _ :: _, [] => by simp [cL]
  | a :: x, b :: y => by
    have := cSt_bd a b
    have := cL_bd x y
    simp only [cL, or2]
    split <;> omega
theorem cL_zero : ∀ {x y : List St}, cL x y = 0 ↔ x = y
  | [], [] => by simp [cL]
  | [], _ :: _ => by simp [cL]
  | _ :: _, [] => by simp [cL]
  | a :: x, b :: y => by
    have h := @cSt_zero a b
    have ih := @cL_zero x y
    simp only [cL, or2, List.cons.injEq, ← h, ← ih]
    constructor
    · intro e
      split at e
      · rename_i h1; exact ⟨h1, e⟩
      · omega
    · rintro ⟨e1, e2⟩
      rw [if_pos e1, e2]
theorem cL_anti : ∀ (x y : List St), cL y x = - cL x y
  | [], [] => by simp [cL]
  | [], _ :: _ => by simp [cL]
  | _ :: _, [] => by simp [cL]
  | a :: x, b :: y => by
    have h := to_cSt.anti a b
    have ih := cL_anti x y
    simp only [cL, or2]
    split <;> split <;> omega
theorem cL_le : ∀ (x y z : List St), cL x y ≤ 0 → cL y z ≤ 0 → cL x z ≤ 0 ∧ ((cL x y < 0 ∨ cL y z < 0) → cL x z < 0)
  | [], [], [], _, _ => by simp [cL]
  | [], [], _ :: _, _, _ => by simp [cL]
  | [], _ :: _, [], _, h => by simp [cL] at h
  | [], _ :: _, _ :: _, _, _ => by simp [cL]
  | _ :: _, [], _, h, _ => by simp [cL] at h
  | _ :: _, _ :: _, [], _, h => by simp [cL] at h
  | a :: x, b :: y, d :: z, h1, h2 => by
    have := to_cSt.le a b d
    have := to_cSt.lt a b d
    have := @TO.zero _ _ to_cSt a b d
    have ih := cL_le x y z
    simp only [cL, or2] at *
    split at h1 <;> split at h2
    · rename_i e1 e2
      have e3 := ‹cSt a b = 0 → cSt b d = 0 → cSt a d = 0› e1 e2
      obtain ⟨i1, i2⟩ := ih h1 h2
      rw [if_pos e3]
      refine ⟨i1, fun h => i2 ?_⟩
      rw [if_pos e1, if_pos e2] at h
      exact h
    · rename_i e1 e2
      have : cSt a d < 0 := ‹cSt a b ≤ 0 → cSt b d ≤ 0 → cSt a b < 0 ∨ cSt b d < 0 → cSt a d < 0› (by omega) h2 (.inr (by omega))
      rw [if_neg (by omega)]
      exact ⟨by omega, fun _ => this⟩
    · rename_i e1 e2
      have : cSt a d < 0 := ‹cSt a b ≤ 0 → cSt b d ≤ 0 → cSt a b < 0 ∨ cSt b d < 0 → cSt a d < 0› h1 (by omega) (.inl (by omega))
      rw [if_neg (by omega)]
      exact ⟨by omega, fun _ => this⟩
    · rename_i e1 e2
      have : cSt a d < 0 := ‹cSt a b ≤ 0 → cSt b d ≤ 0 → cSt a b < 0 ∨ cSt b d < 0 → cSt a d < 0› h1 h2 (.inl (by omega))
      rw [if_neg (by omega)]
      exact ⟨by omega, fun _ => this⟩
theorem cL_pre : ∀ (x y : List St), cL x (x ++ y) ≤ 0
  | [], [] => by simp [cL]
  | [], _ :: _ => by simp [cL]
  | a :: x, y => by
    have e : cSt a a = 0 := cSt_zero.2 rfl
    simp only [List.cons_append, cL, or2, e, if_true]
    exact cL_pre x y
theorem bel_box2 (w : World) (c d : Array Value) (t u : TypeId) : Below w.heap.size w ((w.alloc (.cells c t)).alloc (.cells d u)) := ((Below.refl _ _).alloc (Nat.le_refl _) _).alloc (by simp) _
end Go.Proofs.YthffcdahjcpdfaaGreatDoor

namespace Go.Proofs.YthffcdahjcpdfaaGreatDoor
open Go.RowKit
set_option linter.unusedVariables false
set_option linter.unusedSimpArgs false

/-- Steps that lie in memory. -/
def Sts (W : World) (a : Option Addr) (l : List St) : Prop := l = [] ∨ ∃ b off, a = some ⟨b, off, none⟩ ∧ ∀ (i : Nat) (p : St), l[i]? = some p → W.cell? ⟨b, off + 3 * i, none⟩ = some (.int .u8 p.k) ∧ W.cell? ⟨b, off + 3 * i + 1, none⟩ = some (.string p.s) ∧ W.cell? ⟨b, off + 3 * i + 2, none⟩ = some (.int .i64 p.n)
theorem Sts.below {W W' : World} {a : Option Addr} {l : List St} (h : Sts W a l) (hb : Below W.heap.size W W') : Sts W' a l := by
  rcases h with rfl | ⟨b, off, rfl, h⟩
  · exact .inl rfl
  · refine .inr ⟨b, off, rfl, fun i p e => ?_⟩
    obtain ⟨h0, h1, h2⟩ := h i p e
    exact ⟨(hb.cell (p := ⟨b, off + 3 * i, none⟩) (block_lt_of_cell h0)).trans h0, (hb.cell (p := ⟨b, off + 3 * i + 1, none⟩) (block_lt_of_cell h1)).trans h1, (hb.cell (p := ⟨b, off + 3 * i + 2, none⟩) (block_lt_of_cell h2)).trans h2⟩
theorem Sts.at {W : World} {a : Option Addr} {l : List St} (h : Sts W a l) {i : Nat} (hi : i < l.length) : ∃ b off p, a = some ⟨b, off, none⟩ ∧ l[i]? = some p ∧ W.cell? ⟨b, off + 3 * i, none⟩ = some (.int .u8 p.k) ∧ W.cell? ⟨b, off + 3 * i + 1, none⟩ = some (.string p.s) ∧ W.cell? ⟨b, off + 3 * i + 2, none⟩ = some (.int .i64 p.n) := by
  rcases h with rfl | ⟨b, off, rfl, h⟩
  · simp at hi
  · obtain ⟨p, e⟩ : ∃ p, l[i]? = some p := ⟨_, List.getElem?_eq_getElem hi⟩
    obtain ⟨h0, h1, h2⟩ := h i p e
    exact ⟨b, off, p, rfl, e, h0, h1, h2⟩
theorem info_some {P : Program} {t : TypeId} {n : Nat} (h : (P.info? t).map (·.size) = some n) : ∃ i, P.info? t = some i ∧ i.size = n := by
  cases hq : P.info? t with
  | none => rw [hq] at h; simp at h
  | some i => rw [hq] at h; simp at h; exact ⟨i, rfl, h⟩
theorem sizeStep : (Tryz.prog.info? 54).map (·.size) = some 3 := by kernel_rfl
theorem indexS (b off n cap k : Nat) (w : World) (hk : k < n) :
    (Instr.indexAt 22 (.slice (some ⟨b, off, none⟩) n cap) (.int .i64 (k : Int))).run Tryz.prog w = .ok (.pointer (some ⟨b, off + 3 * k, none⟩)) w := by
  obtain ⟨i, hi, hs⟩ := info_some sizeStep
  have hu := Tryz.underlying22
  have he : Tryz.prog.elem 22 = 54 := by kernel_rfl
  rw [run_indexAt_slice (P := Tryz.prog) _ _ _ _ _ _ _ (by rw [he]; exact hu)]
  simp [hk, he, hi, hs, Go.sizeOf, typeInfo, Addr.add_mid]
theorem cL_step : ∀ {l m : List St} (k : Nat), l.take k = m.take k → k ≤ l.length → k ≤ m.length → cL l m = cL (l.drop k) (m.drop k)
  | _, _, 0, _, _, _ => by simp
  | [], _, k + 1, _, h, _ => by simp at h
  | _ :: _, [], k + 1, _, _, h => by simp at h
  | a :: x, b :: y, k + 1, h, h1, h2 => by
    simp only [List.take_succ_cons, List.cons.injEq] at h
    obtain ⟨rfl, h⟩ := h
    simp only [List.length_cons] at h1 h2
    have e : cSt a a = 0 := cSt_zero.2 rfl
    rw [List.drop_succ_cons, List.drop_succ_cons, ← cL_step k h (by omega) (by omega)]
    simp [cL, or2, e]
theorem drop_at {l : List St} {k : Nat} {p : St} (h : l[k]? = some p) : l.drop k = p :: l.drop (k + 1) := by
  have hk := (List.getElem?_eq_some_iff.1 h)
  obtain ⟨h1, h2⟩ := hk
  rw [List.drop_eq_getElem_cons h1, h2]
theorem take_at {l m : List St} {k : Nat} {p : St} (h : l.take k = m.take k) (h1 : l[k]? = some p) (h2 : m[k]? = some p) : l.take (k + 1) = m.take (k + 1) := by
  rw [List.take_add_one, List.take_add_one, h, h1, h2]
end Go.Proofs.YthffcdahjcpdfaaGreatDoor

