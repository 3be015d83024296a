import Derived.Test.YtdnocpngdepbgaaGreatDoorBk3
import Derived.Test.YtdnocpngdepbgaaGreatDoorP7
import Derived.StillTailTactics
namespace Go.Proofs.YtdnocpngdepbgaaGreatDoor
open Go.RowKit
set_option linter.unusedVariables false
set_option linter.unusedSimpArgs false

theorem rd_keep {w w' : World} {T : TypeId} {r cap : Nat} {a : Option Addr} {L : List UInt8} {s : K.St} (h : K.RD w T r a cap L s) (hr : w'.heap[r]? = w.heap[r]?) (ha : ∀ ad, a = some ad → w'.heap[ad.block]? = w.heap[ad.block]?) : K.RD w' T r a cap L s := by
  refine ⟨hr.trans h.row, h.room, ?_, h.plain, h.at_le, h.few⟩
  rcases h.byt with e | ⟨b, off, rfl, hc⟩
  · exact .inl e
  · exact .inr ⟨b, off, rfl, fun j hj => (show w'.cell? ⟨b, off + j, none⟩ = w.cell? ⟨b, off + j, none⟩ from World.cell?_of_block (ha ⟨b, off, none⟩ rfl)).trans (hc j hj)⟩
/-- A world in which some blocks may have changed. -/
structure Kp (P : Nat → Prop) (w w' : World) : Prop where
  os : w'.os = w.os
  tape : w'.tape = w.tape
  output : w'.output = w.output
  size : w.heap.size ≤ w'.heap.size
  block : ∀ k, k < w.heap.size → ¬ P k → w'.heap[k]? = w.heap[k]?
theorem kp_fr {r : Nat} {w w' : World} (h : K.Fr r w w') : Kp (fun k => k = r) w w' := ⟨h.os, h.tape, h.output, h.size, fun k hk hn => h.block k hk hn⟩
theorem kp_below {w w' : World} (h : Below w.heap.size w w') : Kp (fun _ => False) w w' := ⟨h.os, h.tape, h.output, h.size, fun k hk _ => h.block k hk⟩
theorem Kp.bel {P : Nat → Prop} {w0 w w' : World} (h : Kp P w w') (b : Below w0.heap.size w0 w) (hp : ∀ k, k < w0.heap.size → ¬ P k) : Below w0.heap.size w0 w' :=
  ⟨h.os.trans b.os, h.tape.trans b.tape, h.output.trans b.output, Nat.le_trans b.size h.size, fun k hk => (h.block k (Nat.lt_of_lt_of_le hk b.size) (hp k hk)).trans (b.block k hk)⟩
/-- Both Readers. -/
structure WI (w wx : World) (z r1 r2 q : Nat) (a1 : Option Addr) (c1 : Nat) (a2 : Option Addr) (c2 : Nat) (L : List UInt8) (s1 s2 : K.St) : Prop where
  rd1 : K.RD wx 108 r1 a1 c1 L s1
  rd2 : K.RD wx 110 r2 a2 c2 L s2
  bel : Below w.heap.size w wx
  l1 : w.heap.size ≤ r1 ∧ r1 < z
  l2 : w.heap.size ≤ r2 ∧ r2 < z
  lq : w.heap.size ≤ q ∧ q < z
  ne : r1 ≠ r2 ∧ r1 ≠ q ∧ r2 ≠ q
  p1 : ∀ ad, a1 = some ad → ad.block < z ∧ ad.block ≠ r2 ∧ ad.block ≠ q
  p2 : ∀ ad, a2 = some ad → ad.block < z ∧ ad.block ≠ r1 ∧ ad.block ≠ q
  zz : z ≤ wx.heap.size
section
variable {w wx w' : World} {z r1 r2 q : Nat} {a1 : Option Addr} {c1 : Nat} {a2 : Option Addr} {c2 : Nat} {L : List UInt8} {s1 s2 : K.St}
theorem WI.on1 (h : WI w wx z r1 r2 q a1 c1 a2 c2 L s1 s2) {s' : K.St} (o : K.On wx w' 108 r1 a1 c1 L s') : WI w w' z r1 r2 q a1 c1 a2 c2 L s' s2 :=
  ⟨o.1, rd_keep h.rd2 (o.2.block r2 h.rd2.lt (fun e => h.ne.1 e.symm)) (fun ad e => o.2.block _ (Nat.lt_of_lt_of_le (h.p2 ad e).1 h.zz) (h.p2 ad e).2.1), (kp_fr o.2).bel h.bel (fun k hk e => by have := h.l1.1; omega), h.l1, h.l2, h.lq, h.ne, h.p1, h.p2, Nat.le_trans h.zz o.2.size⟩
theorem WI.on2 (h : WI w wx z r1 r2 q a1 c1 a2 c2 L s1 s2) {s' : K.St} (o : K.On wx w' 110 r2 a2 c2 L s') : WI w w' z r1 r2 q a1 c1 a2 c2 L s1 s' :=
  ⟨rd_keep h.rd1 (o.2.block r1 h.rd1.lt h.ne.1) (fun ad e => o.2.block _ (Nat.lt_of_lt_of_le (h.p1 ad e).1 h.zz) (h.p1 ad e).2.1), o.1, (kp_fr o.2).bel h.bel (fun k hk e => by have := h.l2.1; omega), h.l1, h.l2, h.lq, h.ne, h.p1, h.p2, Nat.le_trans h.zz o.2.size⟩
theorem WI.kp (h : WI w wx z r1 r2 q a1 c1 a2 c2 L s1 s2) {P : Nat → Prop} (k : Kp P wx w') (hP : ∀ b, P b → b = q ∨ z ≤ b) : WI w w' z r1 r2 q a1 c1 a2 c2 L s1 s2 := by
  have no : ∀ b, b < z → b ≠ q → ¬ P b := fun b hb hq hp => by rcases hP b hp with e | e <;> omega
  exact ⟨rd_keep h.rd1 (k.block r1 h.rd1.lt (no r1 h.l1.2 h.ne.2.1)) (fun ad e => k.block _ (Nat.lt_of_lt_of_le (h.p1 ad e).1 h.zz) (no _ (h.p1 ad e).1 (h.p1 ad e).2.2)), rd_keep h.rd2 (k.block r2 h.rd2.lt (no r2 h.l2.2 h.ne.2.2)) (fun ad e => k.block _ (Nat.lt_of_lt_of_le (h.p2 ad e).1 h.zz) (no _ (h.p2 ad e).1 (h.p2 ad e).2.2)), k.bel h.bel (fun b hb hp => by
    have := h.lq.1
    have := h.l1
    rcases hP b hp with e | e <;> omega), h.l1, h.l2, h.lq, h.ne, h.p1, h.p2, Nat.le_trans h.zz k.size⟩
end
theorem bk_keep {w w' : World} {q base : Nat} {x y : Value} {rx ry : List Value} (h : Bk2 w q base x y rx ry) (hq : w'.heap[q]? = w.heap[q]?) (hx : ∀ b, x.ownBlock = some b → w'.heap[b]? = w.heap[b]?) (hy : ∀ b, y.ownBlock = some b → w'.heap[b]? = w.heap[b]?) : Bk2 w' q base x y rx ry := by
  have key : ∀ {e : TypeId} {v : Value} {n : Nat} {xs : List Value}, w.ownsRow base e 1 v n xs → (∀ b, v.ownBlock = some b → w'.heap[b]? = w.heap[b]?) → w'.ownsRow base e 1 v n xs := fun {e v n xs} o hk => by
    refine ⟨o.1, ?_⟩
    rcases o.2 with hn | ⟨g, cap, cur, rfl, hbg, hg, rest⟩
    · exact .inl hn
    · exact .inr ⟨g, cap, cur, rfl, hbg, (hk g rfl).trans hg, rest⟩
  exact ⟨hq.trans h.hq, key h.ox hx, key h.oy hy⟩
/-- The Book and its lists. -/
structure BI (wx : World) (z q k : Nat) (x y : Value) (VB : Nat → K.Lst) (VH : Nat → KH.Lst) (LB : Nat → List UInt8) (LH : Nat → List (List UInt8)) : Prop where
  bk : Bk2 wx q z x y ((List.range k).map fun i => (VB i).v) ((List.range k).map fun i => (VH i).v)
  li : LI wx z k VB VH LB LH
  n0 : k = 0 → x = .slice none 0 0 ∧ y = .slice none 0 0
section
variable {wx w' : World} {z q k : Nat} {x y : Value} {VB : Nat → K.Lst} {VH : Nat → KH.Lst} {LB : Nat → List UInt8} {LH : Nat → List (List UInt8)}
theorem BI.ltx (h : BI wx z q k x y VB VH LB LH) (b : Nat) (e : x.ownBlock = some b) : z ≤ b ∧ b < wx.heap.size := World.ownsRow.lt h.bk.ox b e
theorem BI.lty (h : BI wx z q k x y VB VH LB LH) (b : Nat) (e : y.ownBlock = some b) : z ≤ b ∧ b < wx.heap.size := World.ownsRow.lt h.bk.oy b e
theorem BI.ltB (h : BI wx z q k x y VB VH LB LH) (i : Nat) (hi : i < k) (b : Nat) (e : (VB i).v.ownBlock = some b) : z ≤ b ∧ b < wx.heap.size := World.ownsRow.lt (h.li.ob i hi).1 b e
theorem BI.ltH (h : BI wx z q k x y VB VH LB LH) (i : Nat) (hi : i < k) (b : Nat) (e : (VH i).v.ownBlock = some b) : z ≤ b ∧ b < wx.heap.size := World.ownsRow.lt (h.li.oh i hi).1.2 b e
theorem BI.kp (h : BI wx z q k x y VB VH LB LH) {P : Nat → Prop} (kp : Kp P wx w') (hP : ∀ b, P b → b < z ∧ b ≠ q) : BI w' z q k x y VB VH LB LH := by
  have no : ∀ b, z ≤ b → ¬ P b := fun b hb hp => by have := (hP b hp).1; omega
  have hq : q < wx.heap.size := (Array.getElem?_eq_some_iff.1 h.bk.hq).1
  exact ⟨bk_keep h.bk (kp.block q hq (fun hp => (hP q hp).2 rfl)) (fun b e => kp.block b (h.ltx b e).2 (no b (h.ltx b e).1)) (fun b e => kp.block b (h.lty b e).2 (no b (h.lty b e).1)), h.li.keep (fun i hi b e => kp.block b (h.ltB i hi b e).2 (no b (h.ltB i hi b e).1)) (fun i hi b e => kp.block b (h.ltH i hi b e).2 (no b (h.ltH i hi b e).1)), h.n0⟩
end
theorem rows_len {α : Type} (f : Nat → α) (k : Nat) : ((List.range k).map f).length = k := by simp
/-- One read more in the Book. -/
theorem take_both (z q k : Nat) (x y : Value) (VB : Nat → K.Lst) (VH : Nat → KH.Lst) (LB : Nat → List UInt8) (LH : Nat → List (List UInt8)) (wx : World) (h : BI wx z q k x y VB VH LB LH) (hk : k < 4398046510976) (hz : z ≤ wx.heap.size) (hqz : q < z) (z1 : Nat) (hz1 : z ≤ z1) (ra : Option Addr) (rc : Nat) (R : List UInt8) (la : Option Addr) (lc : Nat) (D : List (List UInt8)) (oR : K.OwnB wx z1 (.slice ra R.length rc) R) (oD : OwnH wx z1 (.slice la D.length lc) D)
    (nR : R.length ≤ 140737488351232) (nD : D.length ≤ 4398046510976) (ltB : ∀ i, i < k → ∀ b, (VB i).v.ownBlock = some b → b < z1) (ltH : ∀ i, i < k → ∀ b, (VH i).v.ownBlock = some b → b < z1) :
    Calls Tryz.prog 15 #[.pointer (some ⟨q, 0, none⟩), .slice ra R.length rc] wx fun e w1 => e = .returned (.tuple #[]) ∧ Kp (fun b => b = q ∨ z ≤ b) wx w1 ∧ (∀ b, b < wx.heap.size → b ≠ q → x.ownBlock ≠ some b → w1.heap[b]? = wx.heap[b]?) ∧ Calls Tryz.prog 25 #[.pointer (some ⟨q, 0, none⟩), .slice la D.length lc] w1 fun e w2 => e = .returned (.tuple #[]) ∧ Kp (fun b => b = q ∨ z ≤ b) wx w2 ∧ ∃ x' y', BI w2 z q (k + 1) x' y' (updB VB k ⟨ra, R.length, rc⟩) (updH VH k ⟨la, D.length, lc⟩) (updL LB k R) (updL LH k D) := by
  have LI1 := h.li.add z1 hz1 ra rc R la lc D oR oD nR nD ltB ltH
  have bigB : ∀ i, i < k + 1 → ∀ b, (updB VB k ⟨ra, R.length, rc⟩ i).v.ownBlock = some b → z ≤ b ∧ b < wx.heap.size := fun i hi b e => World.ownsRow.lt (LI1.ob i hi).1 b e
  have bigH : ∀ i, i < k + 1 → ∀ b, (updH VH k ⟨la, D.length, lc⟩ i).v.ownBlock = some b → z ≤ b ∧ b < wx.heap.size := fun i hi b e => World.ownsRow.lt (LI1.oh i hi).1.2 b e
  refine (takeB q z x y _ _ ra R.length rc wx h.bk (by rw [rows_len]; omega) hz).mono ?_
  rintro e w1 ⟨rfl, ⟨u, bk1⟩, o1, t1, p1, s1, f1⟩
  have kp1 : Kp (fun b => b = q ∨ z ≤ b) wx w1 := ⟨o1, t1, p1, s1, fun b hb hn => f1 b hb (fun e => hn (.inl e)) (fun e => hn (.inr (h.ltx b e).1))⟩
  refine ⟨rfl, kp1, fun b h1 h2 h3 => f1 b h1 h2 h3, ?_⟩
  have LI2 : LI w1 z (k + 1) (updB VB k ⟨ra, R.length, rc⟩) (updH VH k ⟨la, D.length, lc⟩) (updL LB k R) (updL LH k D) := LI1.keep
    (fun i hi b e => f1 b (bigB i hi b e).2 (by have := (bigB i hi b e).1; omega) (fun e2 => own_ty2 h.bk.ox (LI1.ob i hi).1 (by decide) e2 e))
    (fun i hi b e => f1 b (bigH i hi b e).2 (by have := (bigH i hi b e).1; omega) (fun e2 => own_ty2 h.bk.ox (LI1.oh i hi).1.2 (by decide) e2 e))
  refine (takeH q z u y _ _ la D.length lc w1 bk1 (by rw [rows_len]; omega) (Nat.le_trans hz s1)).mono ?_
  rintro e w2 ⟨rfl, ⟨v, bk2⟩, o2, t2, p2, s2, f2⟩
  have lty1 : ∀ b, y.ownBlock = some b → z ≤ b := fun b e => (h.lty b e).1
  refine ⟨rfl, ⟨o2.trans o1, t2.trans t1, p2.trans p1, Nat.le_trans s1 s2, fun b hb hn => (f2 b (Nat.lt_of_lt_of_le hb s1) (fun e => hn (.inl e)) (fun e => hn (.inr (lty1 b e)))).trans (kp1.block b hb hn)⟩, u, v, ?_, ?_, fun e => by omega⟩
  · rw [upd_rows, upd_rowsH]
    exact bk2
  · exact LI2.keep
      (fun i hi b e => f2 b (Nat.lt_of_lt_of_le (bigB i hi b e).2 s1) (by have := (bigB i hi b e).1; omega) (fun e2 => own_ty2 bk1.oy (LI2.ob i hi).1 (by decide) e2 e))
      (fun i hi b e => f2 b (Nat.lt_of_lt_of_le (bigH i hi b e).2 s1) (by have := (bigH i hi b e).1; omega) (fun e2 => own_ty2 bk1.oy (LI2.oh i hi).1.2 (by decide) e2 e))
/-- The Book is looked at. -/
theorem book_all (z q k : Nat) (x y : Value) (VB : Nat → K.Lst) (VH : Nat → KH.Lst) (LB : Nat → List UInt8) (LH : Nat → List (List UInt8)) (wx : World) (h : BI wx z q k x y VB VH LB LH) (hk : k ≤ 4398046510976) (hz : z ≤ wx.heap.size) (hqz : q < z) :
    Calls Tryz.prog 16 #[.pointer (some ⟨q, 0, none⟩)] wx fun e w' => e = .returned (.bool true) ∧ Kp (fun b => b = q ∨ z ≤ b) wx w' := by
  refine (book2_any q z x y wx (rows_one h.bk.ox) (rows_one h.bk.oy) ?_).mono fun e w' ⟨h1, h2, h3, h4, h5, h6⟩ => ⟨h1, h2, h3, h4, h5, fun b hb hn => h6 b (by omega) (fun e => hn (.inl e))⟩
  by_cases h0 : k = 0
  · obtain ⟨rfl, rfl⟩ := h.n0 h0
    have hq := h.bk.hq
    refine (aloneBytes_nil q wx ((cell_of_row wx q 0 _ _ _ hq).trans rfl)).mono ?_
    rintro e w1 ⟨rfl, rfl⟩
    refine ⟨rfl, Below.refl _ _, ?_⟩
    refine (aloneHashes q w1 ((cell_of_row w1 q 1 _ _ _ hq).trans rfl)).mono ?_
    rintro e w2 ⟨rfl, rfl⟩
    exact ⟨rfl, Below.refl _ _, hq⟩
  · exact two_any q z k x y VB VH LB LH wx (by omega) hk h.bk h.li hqz hz
end Go.Proofs.YtdnocpngdepbgaaGreatDoor
