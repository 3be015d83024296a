import Derived.Test.YtifendlpeebofaaGreatDoorP0
import Derived.Test.YtifendlpeebofaaGreatDoorP3
import Derived.Test.YtifendlpeebofaaGreatDoorP2
import Derived.Shelf.Abstract
import Derived.WalkKit
import Derived.WalkSpells
import Derived.WalkLawsBesides
import Derived.Lib.Bytealg
import Derived.Deep.RegionHeld3
import Derived.Deep.Cut
import Derived.Shelf.Sort.Plain
import Derived.Shelf.Slices.CompactI
import Derived.Shelf.Slices.SearchI
import Derived.Shelf.SlGeneric
import Derived.Ground.NamesProg
import Derived.Ground.Names2Prog
import Derived.Test.YtifendlpeebofaaGreatDoorRows
import Derived.Lib.SlicesCompact
import Derived.Sort.OwnSortedInts
import Derived.Lib.OwnBridge
set_option linter.unusedSimpArgs false
set_option linter.unusedVariables false
set_option maxRecDepth 100000
set_option maxHeartbeats 4000000
namespace Go.Proofs.YtifendlpeebofaaGreatDoor
open Go.RowKit
theorem len_mk (a : Option Addr) (m c : Nat) (w : World) : (Builtin.len_ #[85] 3 #[.slice a m c]).run Tryz.prog w = .ok (.int .i64 (m : Int)) w := by go_simp
theorem ix_mk {b o n c i : Nat} (hi : i < n) (hm : n ≤ 9223372036854775807) (W : World) : (Instr.indexAt 85 (.slice (some ⟨b, o, none⟩) n c) (.int .i64 (i : Int))).run Tryz.prog W = .ok (.pointer (some ⟨b, o + 105 * i, none⟩)) W := by
  rw [Nat.mul_comm]
  go_simp
theorem exec_boxM {P : Program} {w w2 : World} {a : Act} {o : Oper} {t : TypeId} {x : Operand} {v u : Value} (ho : o.op = .box t x) (hx : a.eval x = v) (hl : (Instr.box t v).run P w = .ok u w2) : (execOp a.eval o).run P w = .ok (.value u) w2 := by
  unfold execOp; simp only [ho, hx, Sem.run_bind, hl, Result.andThen_ok, Sem.run_pure]
theorem qcR {l n : Nat} {P : Program} {ops : Array Oper} {rest : List Oper} {o : Oper} {a : Act} {w : World} {Q : Exit → Act → World → Prop} {f : Nat} {vs : Array Value} {R : Ending → World → Prop} {d : Nat} (h1 : 1 ≤ n) (hw : Region.wanted o (yielded ops a.tmps) = true) (hr : (execOp a.eval o).run P w = .ok (.enter f vs) w) (hC : Calls P f vs w R) (h : ∀ e w', R e w' → ∃ v, e = .returned v ∧ ∀ a', a' = a.put (some d) v → wpListIn (Fence.wide.inRound l) n P ops Q rest a' w') (hd : o.dst = some d := by rfl) (hn : ∀ c, o.op ≠ .defer c := by intro c h; cases h) : wpListIn (Fence.wide.inRound l) n P ops Q (o :: rest) a w :=
  wpListIn_step fun K hK => by
    rw [if_pos hw]
    refine ⟨fun f _ => trivial, ?_⟩
    rw [Oper.semAt_plain _ _ _ hn, hr, Oper.uponIn_enter]
    refine ⟨fun _ => h1, (CallsIn.inRound l (callsIn_wide.2 hC)).mono ?_⟩
    intro e w' hp
    obtain ⟨v, rfl, hh⟩ := h e w' hp
    exact hK _ _ (by rw [hd]; exact hh _ rfl)
end Go.Proofs.YtifendlpeebofaaGreatDoor
namespace Go.Proofs.YtifendlpeebofaaGreatDoor
open Go.RowKit Go.Shelf Sq
def Kl (l : List Nat) (W W' : World) : Prop := ∀ j ∈ l, W'.heap[j]? = W.heap[j]?
theorem Kl.trans {l : List Nat} {A B C : World} (h : Kl l A B) (k : Kl l B C) : Kl l A C := fun j hj => (k j hj).trans (h j hj)
theorem Kl.put {l : List Nat} {w : World} (hl : ∀ j ∈ l, j < w.heap.size) (W : World) (b : Nat) (o o' : Obj) (hb : w.heap.size ≤ b) (h : W.heap[b]? = some o) (h1 : o.isCells = false) (h2 : o.isWalk = false) : Kl l W (W.putObj b o') := fun j hj => by
  have := hl j hj
  exact World.putObj_heap_other (by omega)
def bkZ {κ : Type} (L : List κ) : List (κ × Nat) := L.zipIdx.reverse
theorem bkZ_len {κ : Type} (L : List κ) : (bkZ L).length = L.length := by simp [bkZ]
theorem bkZ_get {κ : Type} {L : List κ} {j : Nat} {x : κ} (hx : L[j]? = some x) : (bkZ L)[L.length - 1 - j]? = some (x, j) := by
  have hj := (List.getElem?_eq_some_iff.1 hx).1
  unfold bkZ
  rw [List.getElem?_reverse (by simp; omega), List.length_zipIdx, List.getElem?_zipIdx, show L.length - 1 - (L.length - 1 - j) = j by omega, hx]
  simp
theorem lift_ok {κ : Type} {P : κ → Prop} : ∀ (L : List κ), (∀ x ∈ L, P x) → ∃ LK : List {x // P x}, LK.map (·.1) = L
  | [], _ => ⟨[], rfl⟩
  | x :: L, h => by
    obtain ⟨LK, e⟩ := lift_ok L (fun y hy => h y (by simp [hy]))
    exact ⟨⟨x, h x (by simp)⟩ :: LK, by simp [e]⟩
def adB (a : Option Addr) : List Nat := match a with | some ad => [ad.block] | none => []
theorem ba_inj {a b : ByteArray} (h : a.toList = b.toList) : a = b := by
  rw [ByteArray.toList_eq, ByteArray.toList_eq] at h
  cases a; cases b
  congr 1
  exact Array.toList_inj.1 h
def tx (s : ByteArray) : Value := .string s
theorem txKey : M.KeyOk Tryz.prog 9 tx (fun s => s.size ≤ maxLen) := {
  chk := fun b k w hk => MapKept.run_checkKey (d := .string) (k := .string k) Tryz.underlying9 trivial b 9999
  eq := fun a b w ha hb => by
    have : (Op.equal 9 (.string a) (.string b)).run Tryz.prog w = .ok (a.toList == b.toList) w := by
      unfold Op.equal Op.maxDepth
      exact run_equalIn_string w 9999 9 _ _ Tryz.underlying9
    have e : decide (a = b) = (a.toList == b.toList) := by
      rw [Bool.eq_iff_iff]
      simp only [decide_eq_true_eq, beq_iff_eq]
      constructor
      · rintro rfl; rfl
      · exact ba_inj
    rw [e]
    exact this
  und := ⟨_, Tryz.underlying9, .inr fun a b => by
    have e : (a == b) = decide (a = b) := by rw [Bool.eq_iff_iff, MapKept.bytes_beq, decide_eq_true_eq]
    rw [← e]
    rfl⟩
  bits := fun k => by
    simp only [tx, Instr.sameBits]
    exact (MapKept.bytes_beq k k).2 rfl }
def txOk (s : ByteArray) : Prop := s.size ≤ maxLen
def nmE (L : List MkV) : List (ByteArray × Value) := L.map fun x => (x.nm, unV)
structure LC (w wl : World) (b4 b5 b7 b8 fm : Nat) (sp : Value) (r : Int) (acc : List MkV) (W : World) : Prop where
  v : ∃ v, W.heap[b7]? = some (.cells #[v] 85 (0, 0)) ∧ RM.Lo W w.heap.size v acc
  m : W.heap[b8]? = some (.cells #[.map (some fm)] 136 (0, 0))
  f : M.MapAt W fm tx txOk (nmE acc)
  s : W.heap[b4]? = some (.cells #[sp] 23 (0, 0))
  r : W.heap[b5]? = some (.cells #[.int .i64 r] 3 (0, 0))
  bel : Below w.heap.size w W
  sz : wl.heap.size ≤ W.heap.size
section
variable {w wl W W' : World} {b4 b5 b7 b8 fm : Nat} {sp : Value} {r : Int} {acc : List MkV}
end
attribute [local go_sem] Oper.semAt_some
theorem zput {a : Act} {j : Nat} {v : Value} : (a.put (some j) v).tmps.size = a.tmps.size := by simp [Act.put]
theorem gput {a : Act} {i j : Nat} {v : Value} : (a.put (some j) v).tmps.getD i undef = if i = j then (if j < a.tmps.size then v else undef) else a.tmps.getD i undef := by
  simp only [Act.put, Array.getD_eq_getD_getElem?, Array.getElem?_setIfInBounds]
  by_cases e : j = i
  · subst e
    by_cases q : j < a.tmps.size <;> simp [q]
  · rw [if_neg e, if_neg (fun q : i = j => e q.symm)]
theorem run_boxM {P : Program} (t : TypeId) (v : Value) (w : World) : (Instr.box t v).run P w = .ok (.pointer (some ⟨w.heap.size, 0, none⟩)) (w.alloc (.cells v.cells t)) := by
  simp only [Instr.box, newVar, newRow, newObj, Sem.run_bind, Sem.run_pure, Result.andThen_ok]
  rfl
theorem keeps_below {B : Nat} {W W' : World} (b : Below W.heap.size W W') : KeepsFrom B W W' := ⟨b.size, fun k o _ hk _ => (b.block k (Array.getElem?_eq_some_iff.1 hk).1).trans hk⟩
attribute [local go_sem] Oper.semAt_some
section
variable {w wl W W' : World} {b4 b5 b7 b8 fm : Nat} {sb : Nat} {r : Int} {acc : List MkV}
end
end Go.Proofs.YtifendlpeebofaaGreatDoor
namespace Go.Proofs.YtifendlpeebofaaGreatDoor
open Go.RowKit
def cI (a b : Int) : Int := if a < b then -1 else if b < a then 1 else 0
def cS (a b : ByteArray) : Int := if Op.bytesLess a.toList b.toList = true then -1 else if (a.toList == b.toList) = true then 0 else 1
/-! ### texts by their bytes -/
theorem bl_irrefl : ∀ l : List UInt8, Op.bytesLess l l = false
  | [] => rfl
  | a :: x => by
    unfold Op.bytesLess
    simp [bl_irrefl x]
theorem bl_cons (a b : UInt8) (x y : List UInt8) : Op.bytesLess (a :: x) (b :: y) = true ↔ a.toNat < b.toNat ∨ (a = b ∧ Op.bytesLess x y = true) := by
  rw [Op.bytesLess]
  simp [UInt8.lt_iff_toNat_lt]
theorem bl_asymm : ∀ {a b : List UInt8}, Op.bytesLess a b = true → Op.bytesLess b a = false
  | [], [], h => by simp [Op.bytesLess] at h
  | [], _ :: _, _ => rfl
  | _ :: _, [], h => by simp [Op.bytesLess] at h
  | a :: x, b :: y, h => by
    cases hq : Op.bytesLess (b :: y) (a :: x) with
    | false => rfl
    | true =>
      rw [bl_cons] at h hq
      rcases h with h | ⟨rfl, h⟩
      · rcases hq with q | ⟨rfl, q⟩ <;> omega
      · rcases hq with q | ⟨_, q⟩
        · omega
        · rw [bl_asymm h] at q; cases q
theorem bl_total : ∀ {a b : List UInt8}, Op.bytesLess a b = false → Op.bytesLess b a = false → a = b
  | [], [], _, _ => rfl
  | [], _ :: _, h, _ => by simp [Op.bytesLess] at h
  | _ :: _, [], _, h => by simp [Op.bytesLess] at h
  | a :: x, b :: y, h1, h2 => by
    have e1 : ¬ (a.toNat < b.toNat ∨ (a = b ∧ Op.bytesLess x y = true)) := by rw [← bl_cons, h1]; simp
    have e2 : ¬ (b.toNat < a.toNat ∨ (b = a ∧ Op.bytesLess y x = true)) := by rw [← bl_cons, h2]; simp
    have e : a = b := UInt8.toNat_inj.1 (by omega)
    subst e
    have h3 : Op.bytesLess x y = false := by cases hq : Op.bytesLess x y with | false => rfl | true => exact absurd (.inr ⟨rfl, hq⟩) e1
    have h4 : Op.bytesLess y x = false := by cases hq : Op.bytesLess y x with | false => rfl | true => exact absurd (.inr ⟨rfl, hq⟩) e2
    rw [bl_total h3 h4]
theorem bl_trans : ∀ {a b c : List UInt8}, Op.bytesLess a b = true → Op.bytesLess b c = true → Op.bytesLess a c = true
  | _, [], _, h, _ => by cases ‹List UInt8› <;> simp [Op.bytesLess] at h
  | _, _ :: _, [], _, h => by simp [Op.bytesLess] at h
  | [], _ :: _, _ :: _, _, _ => rfl
  | a :: x, b :: y, c :: z, h1, h2 => by
    rw [bl_cons] at h1 h2 ⊢
    rcases h1 with h1 | ⟨rfl, h1⟩
    · rcases h2 with h2 | ⟨rfl, h2⟩ <;> exact .inl (by omega)
    · rcases h2 with h2 | ⟨rfl, h2⟩
      · exact .inl h2
      · exact .inr ⟨rfl, bl_trans h1 h2⟩
/-! ### orders, one behind the other -/
structure TO {α : Type} (c : α → α → Int) : Prop where
  anti : ∀ a b, c b a = - c a b
  le : ∀ a b d, c a b ≤ 0 → c b d ≤ 0 → c a d ≤ 0
  lt : ∀ a b d, c a b ≤ 0 → c b d ≤ 0 → (c a b < 0 ∨ c b d < 0) → c a d < 0
theorem TO.zero {α : Type} {c : α → α → Int} (h : TO c) {a b d : α} (h1 : c a b = 0) (h2 : c b d = 0) : c a d = 0 := by
  have e1 := h.le a b d (by omega) (by omega)
  have e2 := h.le d b a (by rw [h.anti]; omega) (by rw [h.anti]; omega)
  rw [h.anti] at e2
  omega
def or2 (a b : Int) : Int := if a = 0 then b else a
theorem TO.lex {α β : Type} {c : α → α → Int} {d : β → β → Int} (hc : TO c) (hd : TO d) : TO (fun (p q : α × β) => or2 (c p.1 q.1) (d p.2 q.2)) := by
  refine ⟨fun a b => ?_, fun a b e h1 h2 => ?_, fun a b e h1 h2 h3 => ?_⟩
  · simp only [or2]
    have := hc.anti a.1 b.1
    have := hd.anti a.2 b.2
    split <;> split <;> omega
  · simp only [or2] at *
    have := hc.le a.1 b.1 e.1
    have := hc.lt a.1 b.1 e.1
    have := @TO.zero _ _ hc a.1 b.1 e.1
    have := hd.le a.2 b.2 e.2
    split at h1 <;> split at h2 <;> split <;> omega
  · simp only [or2] at *
    have := hc.le a.1 b.1 e.1
    have := hc.lt a.1 b.1 e.1
    have := @TO.zero _ _ hc a.1 b.1 e.1
    have := hd.le a.2 b.2 e.2
    have := hd.lt a.2 b.2 e.2
    split at h1 <;> split at h2 <;> split <;> split at h3 <;> (try split at h3) <;> omega
theorem to_cI : TO cI := by
  refine ⟨fun a b => ?_, fun a b d => ?_, fun a b d => ?_⟩ <;> simp only [cI] <;> repeat' split
  all_goals omega
theorem cS_val (a b : ByteArray) : (Op.bytesLess a.toList b.toList = true ∧ cS a b = -1) ∨ (a.toList = b.toList ∧ cS a b = 0) ∨ (Op.bytesLess b.toList a.toList = true ∧ cS a b = 1) := by
  unfold cS
  cases h1 : Op.bytesLess a.toList b.toList with
  | true => exact .inl ⟨rfl, by simp⟩
  | false =>
    cases h2 : Op.bytesLess b.toList a.toList with
    | true =>
      have hne : ¬ a.toList = b.toList := fun e => by rw [e, bl_irrefl] at h2; cases h2
      exact .inr (.inr ⟨rfl, by simp [hne]⟩)
    | false =>
      have e := bl_total h1 h2
      exact .inr (.inl ⟨e, by simp [e]⟩)
theorem to_cS : TO cS := by
  refine ⟨fun a b => ?_, fun a b d h1 h2 => ?_, fun a b d h1 h2 h3 => ?_⟩
  · rcases cS_val a b with ⟨p, e⟩ | ⟨p, e⟩ | ⟨p, e⟩ <;> rcases cS_val b a with ⟨q, g⟩ | ⟨q, g⟩ | ⟨q, g⟩
    all_goals first
      | (rw [e, g]; done)
      | (rw [e, g]; rfl)
      | (exfalso; rw [bl_asymm p] at q; cases q; done)
      | (exfalso; rw [q, bl_irrefl] at p; cases p; done)
      | (exfalso; rw [p, bl_irrefl] at q; cases q; done)
  · rcases cS_val a b with ⟨p, e⟩ | ⟨p, e⟩ | ⟨p, e⟩ <;> rcases cS_val b d with ⟨q, g⟩ | ⟨q, g⟩ | ⟨q, g⟩ <;> rcases cS_val a d with ⟨r, i⟩ | ⟨r, i⟩ | ⟨r, i⟩ <;> (try omega)
    · have := bl_trans p q; rw [bl_asymm this] at r; cases r
    · rw [q] at p; rw [bl_asymm p] at r; cases r
    · rw [← p] at q; rw [bl_asymm q] at r; cases r
    · rw [p, q, bl_irrefl] at r; cases r
  · rcases cS_val a b with ⟨p, e⟩ | ⟨p, e⟩ | ⟨p, e⟩ <;> rcases cS_val b d with ⟨q, g⟩ | ⟨q, g⟩ | ⟨q, g⟩ <;> rcases cS_val a d with ⟨r, i⟩ | ⟨r, i⟩ | ⟨r, i⟩ <;> (try omega)
    · have := bl_trans p q; rw [r, bl_irrefl] at this; cases this
    · have := bl_trans p q; rw [bl_asymm this] at r; cases r
    · rw [q, ← r, bl_irrefl] at p; cases p
    · rw [q] at p; rw [bl_asymm p] at r; cases r
    · rw [← p, r, bl_irrefl] at q; cases q
    · rw [← p] at q; rw [bl_asymm q] at r; cases r
theorem cmpB : ∀ (x y : List UInt8), Lib.compareBytes x y = if Op.bytesLess x y = true then -1 else if (x == y) = true then 0 else 1
  | [], [] => by simp [Lib.compareBytes, Op.bytesLess]
  | [], _ :: _ => by simp [Lib.compareBytes, Op.bytesLess]
  | _ :: _, [] => by simp [Lib.compareBytes, Op.bytesLess]
  | a :: x, b :: y => by
    unfold Lib.compareBytes
    rw [cmpB x y]
    by_cases h1 : a < b
    · have : Op.bytesLess (a :: x) (b :: y) = true := (bl_cons a b x y).2 (.inl (UInt8.lt_iff_toNat_lt.1 h1))
      rw [if_pos h1, if_pos this]
    · rw [if_neg h1]
      have h1' : ¬ a.toNat < b.toNat := fun h => h1 (UInt8.lt_iff_toNat_lt.2 h)
      by_cases h2 : b < a
      · have h2' : b.toNat < a.toNat := UInt8.lt_iff_toNat_lt.1 h2
        have n1 : ¬ Op.bytesLess (a :: x) (b :: y) = true := by
          rw [bl_cons]
          rintro (h | ⟨rfl, _⟩) <;> omega
        have n2 : ¬ ((a :: x) == (b :: y)) = true := by
          intro h
          have : a = b := by simpa using (List.cons.inj (by simpa using h : a :: x = b :: y)).1
          subst this
          omega
        rw [if_pos h2, if_neg n1, if_neg n2]
      · have e : a = b := UInt8.toNat_inj.1 (by have : ¬ b.toNat < a.toNat := fun h => h2 (UInt8.lt_iff_toNat_lt.2 h); omega)
        subst e
        rw [if_neg h2]
        have q1 : (Op.bytesLess (a :: x) (a :: y) = true) ↔ (Op.bytesLess x y = true) := by rw [bl_cons]; simp
        have q2 : (((a :: x) == (a :: y)) = true) ↔ ((x == y) = true) := by simp
        simp only [q1, q2]
theorem cmpS (a b : ByteArray) : Lib.compareBytes a.data.toList b.data.toList = cS a b := by
  rw [cmpB]
  unfold cS
  simp only [ByteArray.toList_eq]
theorem nanN (k : Int) (w : World) : Calls Tryz.prog 106 #[.int .i64 k] w fun e w' => e = .returned (.bool false) ∧ w' = w := by
  go_enter Tryz.func106, Tryz.ntmps106
  go_wp2
  go_ret
  exact ⟨by simp, rfl⟩
theorem cmpN (a b : Int) (w : World) : Calls Tryz.prog 85 #[.int .i64 a, .int .i64 b] w fun e w' => e = .returned (.int .i64 (cI a b)) ∧ w' = w := by
  have H : Hid (∀ k wx, Calls Tryz.prog 106 #[.int .i64 k] wx fun e w' => e = .returned (.bool false) ∧ w' = wx) := fun k wx => nanN k wx
  unfold cI
  by_cases h1 : a < b
  · rw [if_pos h1]
    go_enter Tryz.func85, Tryz.ntmps85
    go_wp2_with (first | (go_at_call 106; refine (H.out _ _).mono ?_; rintro e _ ⟨rfl, rfl⟩) | fail)
    go_ret
    exact ⟨rfl, rfl⟩
  · rw [if_neg h1]
    by_cases h2 : b < a
    · rw [if_pos h2]
      go_enter Tryz.func85, Tryz.ntmps85
      go_wp2_with (first | (go_at_call 106; refine (H.out _ _).mono ?_; rintro e _ ⟨rfl, rfl⟩) | fail)
      go_ret
      exact ⟨rfl, rfl⟩
    · rw [if_neg h2]
      go_enter Tryz.func85, Tryz.ntmps85
      go_wp2_with (first | (go_at_call 106; refine (H.out _ _).mono ?_; rintro e _ ⟨rfl, rfl⟩) | fail)
      go_ret
      exact ⟨rfl, rfl⟩
theorem ext_cs (a b : ByteArray) (w : World) : (callFunc 139 #[.string a, .string b]).run Tryz.prog w = .ok (.value (.int .i64 (cS a b))) w := by
  rw [run_callFunc_extern Tryz.func139 (by kernel_rfl) (by kernel_rfl) (by kernel_rfl) (e := Extern.BytealgCompare.compare) (by kernel_rfl)]
  rw [Lib.run_compareString, cmpS]
  rfl
theorem cmpB_any (a b : ByteArray) (w : World) : Calls Tryz.prog 107 #[.string a, .string b] w fun e w' => e = .returned (.int .i64 (cS a b)) ∧ w' = w := by
  have hx := ext_cs a b w
  go_enter Tryz.func107, Tryz.ntmps107
  go_wp2
  go_ret
  exact ⟨rfl, rfl⟩
theorem cmpS_any (a b : ByteArray) (w : World) : Calls Tryz.prog 86 #[.string a, .string b] w fun e w' => e = .returned (.int .i64 (cS a b)) ∧ w' = w := by
  have H := hidMk (cmpB_any a b w)
  go_enter Tryz.func86, Tryz.ntmps86
  go_wp2_with fail
  refine H.out.mono ?_
  rintro e w1 ⟨rfl, hw⟩
  subst hw
  go_wp2
  go_ret
  exact ⟨rfl, rfl⟩
def or3 (a b c : Int) : Int := if a = 0 then (if b = 0 then c else b) else a
def sel3 (a b c : Int) (k : Nat) : Int := if k = 0 then a else if k = 1 then b else c
theorem or_any (g : Nat) (a b c : Int) (w : World) (t : TypeId) (fr : Nat × Nat) (hg : w.heap[g]? = some (.cells #[.int .i64 a, .int .i64 b, .int .i64 c] t fr)) :
    Calls Tryz.prog 84 #[.slice (some ⟨g, 0, none⟩) 3 3] w fun e w' => e = .returned (.int .i64 (or3 a b c)) ∧ w' = w := by
  have HC : Hid (∀ k, k < 3 → w.cell? ⟨g, k, none⟩ = some (.int .i64 (sel3 a b c k))) := fun k hk => by
    rw [cell_of_row w g k _ _ _ hg]
    rcases (show k = 0 ∨ k = 1 ∨ k = 2 by omega) with rfl | rfl | rfl <;> rfl
  have HO : Hid (∀ k, k < 3 → (∀ j, j < k → sel3 a b c j = 0) → sel3 a b c k ≠ 0 → or3 a b c = sel3 a b c k) := fun k hk h1 h2 => by
    rcases (show k = 0 ∨ k = 1 ∨ k = 2 by omega) with rfl | rfl | rfl
    · simp only [sel3, if_true] at h2 ⊢; unfold or3; rw [if_neg h2]
    · have := h1 0 (by omega)
      simp [sel3] at h2 this
      simp [or3, sel3, this, h2]
    · have := h1 0 (by omega)
      have := h1 1 (by omega)
      simp_all [or3, sel3]
  have HZ : Hid ((∀ j, j < 3 → sel3 a b c j = 0) → or3 a b c = 0) := fun h => by
    have := h 0 (by omega)
    have := h 1 (by omega)
    have := h 2 (by omega)
    simp_all [or3, sel3]
  generalize or3 a b c = O at *
  clear hg
  go_enter Tryz.func84, Tryz.ntmps84
  go_wp2
  go_loopw [8] (fun i wr => ∃ k : Nat, k ≤ 3 ∧ i = .int .i64 k ∧ wr = w ∧ Hid (∀ j, j < k → sel3 a b c j = 0)) (fun i _ => 3 - (intOf i).toNat)
  case atStart => exact ⟨0, by omega, rfl, rfl, fun j hj => by omega⟩
  case round =>
    obtain ⟨k, hk, rfl, rfl, hj⟩ := hrel
    by_cases h1 : k < 3
    · have h1' : (k : Int) < 3 := by omega
      have cx := HC.out k h1
      by_cases h0 : sel3 a b c k = 0
      · have HN : Hid (∀ j, j < k + 1 → sel3 a b c j = 0) := fun j hj2 => by
          rcases Nat.lt_or_ge j k with h | h
          · exact hj.out j h
          · have : j = k := by omega
            subst this; exact h0
        generalize sel3 a b c k = X at cx h0
        subst h0
        go_wp2
        go_roundw
        case rel => exact ⟨k + 1, by omega, by go_num, by trivial, HN⟩
        case measure => simp [intOf]; omega
      · have eO : Hid (O = sel3 a b c k) := HO.out k h1 hj.out h0
        generalize sel3 a b c k = X at *
        go_wp2
        go_ret
        exact ⟨by rw [eO.out]; rfl, rfl⟩
    · have h1' : ¬ (k : Int) < 3 := by omega
      obtain rfl : k = 3 := by omega
      have eO : Hid (O = 0) := HZ.out hj.out
      clear HO HZ hj HC
      go_wp2
      go_ret
      exact ⟨by rw [eO.out]; rfl, rfl⟩
theorem fg_65_0 (b o : Nat) (w : World) : (Instr.fieldAt 65 (.pointer (some ⟨b, o, none⟩)) 0).run Tryz.prog w = .ok (.pointer (some ⟨b, o + 0, none⟩)) w := by go_simp
theorem fg_65_1 (b o : Nat) (w : World) : (Instr.fieldAt 65 (.pointer (some ⟨b, o, none⟩)) 1).run Tryz.prog w = .ok (.pointer (some ⟨b, o + 1, none⟩)) w := by go_simp
theorem fg_65_2 (b o : Nat) (w : World) : (Instr.fieldAt 65 (.pointer (some ⟨b, o, none⟩)) 2).run Tryz.prog w = .ok (.pointer (some ⟨b, o + 2, none⟩)) w := by go_simp
theorem exec_buildSlice3 {P : Program} {w w2 : World} {a : Act} {o : Oper} {t n : Nat} {x y z : Operand} {xv yv zv v : Value} (ho : o.op = .buildSlice t n #[(0, x), (1, y), (2, z)]) (hx : a.eval x = xv) (hy : a.eval y = yv) (hz : a.eval z = zv) (hl : (Instr.buildSlice t n #[(0, xv), (1, yv), (2, zv)]).run P w = .ok v w2) : (execOp a.eval o).run P w = .ok (.value v) w2 := by
  unfold execOp; simp only [ho, List.map_toArray, List.map_cons, List.map_nil, hx, hy, hz, Sem.run_bind, hl, Result.andThen_ok, Sem.run_pure]
theorem exec_build4 {P : Program} {w : World} {a : Act} {o : Oper} {t : TypeId} {x0 x1 x2 x3 : Operand} {v0 v1 v2 v3 v : Value} (ho : o.op = .build t #[(0, x0), (1, x1), (2, x2), (3, x3)]) (h0 : a.eval x0 = v0) (h1 : a.eval x1 = v1) (h2 : a.eval x2 = v2) (h3 : a.eval x3 = v3) (hl : (Instr.build t #[(0, v0), (1, v1), (2, v2), (3, v3)]).run P w = .ok v w) : (execOp a.eval o).run P w = .ok (.value v) w := by
  unfold execOp; simp only [ho, List.map_toArray, List.map_cons, List.map_nil, h0, h1, h2, h3, Sem.run_bind, hl, Result.andThen_ok, Sem.run_pure]
def srt1_o0 : Oper := ⟨some 5, .fieldAddr 65 (.tmp 2) 0, 0, "tell.go:81", #[], none⟩
def srt1_o1 : Oper := ⟨some 6, .load 3 (.tmp 5), 3, "tell.go:81", #[⟨0, .data⟩], none⟩
def srt1_o2 : Oper := ⟨some 7, .fieldAddr 65 (.tmp 3) 0, 0, "tell.go:81", #[], none⟩
def srt1_o3 : Oper := ⟨some 8, .load 3 (.tmp 7), 3, "tell.go:81", #[⟨2, .data⟩], none⟩
def srt1_o4 : Oper := ⟨some 9, .call { callee := Callee.value (Operand.func 85), args := #[.tmp 6, .tmp 8], argTypes := #[3, 3] }, 3, "tell.go:81", #[⟨1, .data⟩, ⟨3, .data⟩], none⟩
def srt1_o5 : Oper := ⟨some 10, .fieldAddr 65 (.tmp 2) 1, 0, "tell.go:81", #[], none⟩
def srt1_o6 : Oper := ⟨some 11, .load 3 (.tmp 10), 3, "tell.go:81", #[⟨5, .data⟩], none⟩
def srt1_o7 : Oper := ⟨some 12, .fieldAddr 65 (.tmp 3) 1, 0, "tell.go:81", #[], none⟩
def srt1_o8 : Oper := ⟨some 13, .load 3 (.tmp 12), 3, "tell.go:81", #[⟨7, .data⟩], none⟩
def srt1_o9 : Oper := ⟨some 14, .call { callee := Callee.value (Operand.func 85), args := #[.tmp 11, .tmp 13], argTypes := #[3, 3] }, 3, "tell.go:81", #[⟨6, .data⟩, ⟨8, .data⟩, ⟨4, .chain⟩], none⟩
def srt1_o10 : Oper := ⟨some 15, .fieldAddr 65 (.tmp 2) 2, 0, "tell.go:81", #[], none⟩
def srt1_o11 : Oper := ⟨some 16, .load 9 (.tmp 15), 9, "tell.go:81", #[⟨10, .data⟩], none⟩
def srt1_o12 : Oper := ⟨some 17, .fieldAddr 65 (.tmp 3) 2, 0, "tell.go:81", #[], none⟩
def srt1_o13 : Oper := ⟨some 18, .load 9 (.tmp 17), 9, "tell.go:81", #[⟨12, .data⟩], none⟩
def srt1_o14 : Oper := ⟨some 19, .call { callee := Callee.value (Operand.func 86), args := #[.tmp 16, .tmp 18], argTypes := #[9, 9] }, 3, "tell.go:81", #[⟨11, .data⟩, ⟨13, .data⟩, ⟨9, .chain⟩], none⟩
def srt1_o15 : Oper := ⟨some 20, .buildSlice 150 3 #[(0, .tmp 9), (1, .tmp 14), (2, .tmp 19)], 150, "tell.go:81", #[⟨4, .data⟩, ⟨9, .data⟩, ⟨14, .data⟩], none⟩
def srt1_o16 : Oper := ⟨some 21, .call { callee := Callee.value (Operand.func 84), args := #[.tmp 20], argTypes := #[150] }, 3, "tell.go:81", #[⟨15, .data⟩, ⟨14, .chain⟩], none⟩
def srt1_o17 : Oper := ⟨some 4, .assign (.tmp 21), 3, "tell.go:81", #[⟨16, .data⟩, ⟨16, .chain⟩, ⟨0, .phase⟩, ⟨1, .phase⟩, ⟨2, .phase⟩, ⟨3, .phase⟩, ⟨4, .phase⟩, ⟨5, .phase⟩, ⟨6, .phase⟩, ⟨7, .phase⟩, ⟨8, .phase⟩, ⟨9, .phase⟩, ⟨10, .phase⟩, ⟨11, .phase⟩, ⟨12, .phase⟩, ⟨13, .phase⟩, ⟨14, .phase⟩, ⟨15, .phase⟩, ⟨16, .phase⟩], none⟩
def srt1_ops : Array Oper := #[srt1_o0, srt1_o1, srt1_o2, srt1_o3, srt1_o4, srt1_o5, srt1_o6, srt1_o7, srt1_o8, srt1_o9, srt1_o10, srt1_o11, srt1_o12, srt1_o13, srt1_o14, srt1_o15, srt1_o16, srt1_o17]
theorem srt1 {pb qb : Nat} {p q : SpV} {x1 x2 x3 z : Int} {sv : Value} (S : World → Prop) (a : Act) (w : World) (Q : Exit → Act → World → Prop) (zz : a.tmps.size = 22)
    (t2 : a.tmps.getD 2 undef = .pointer (some ⟨pb, 0, none⟩))
    (t3 : a.tmps.getD 3 undef = .pointer (some ⟨qb, 0, none⟩))
    (h0 : S w.drew) (Lpb0 : ∀ W, S W → (Instr.loadAt 3 (.pointer (some ⟨pb, 0 + 0, none⟩))).run Tryz.prog W = .ok (.int .i64 p.fr) W) (Lpb1 : ∀ W, S W → (Instr.loadAt 3 (.pointer (some ⟨pb, 0 + 1, none⟩))).run Tryz.prog W = .ok (.int .i64 p.to) W) (Lpb2 : ∀ W, S W → (Instr.loadAt 9 (.pointer (some ⟨pb, 0 + 2, none⟩))).run Tryz.prog W = .ok (.string p.nm) W) (Lqb0 : ∀ W, S W → (Instr.loadAt 3 (.pointer (some ⟨qb, 0 + 0, none⟩))).run Tryz.prog W = .ok (.int .i64 q.fr) W) (Lqb1 : ∀ W, S W → (Instr.loadAt 3 (.pointer (some ⟨qb, 0 + 1, none⟩))).run Tryz.prog W = .ok (.int .i64 q.to) W) (Lqb2 : ∀ W, S W → (Instr.loadAt 9 (.pointer (some ⟨qb, 0 + 2, none⟩))).run Tryz.prog W = .ok (.string q.nm) W) (CA : Calls Tryz.prog 85 #[.int .i64 p.fr, .int .i64 q.fr] w.drew fun e w1 => e = .returned (.int .i64 x1) ∧ S w1 ∧ Calls Tryz.prog 85 #[.int .i64 p.to, .int .i64 q.to] w1 fun e w2 => e = .returned (.int .i64 x2) ∧ S w2 ∧ Calls Tryz.prog 86 #[.string p.nm, .string q.nm] w2 fun e w3 => e = .returned (.int .i64 x3) ∧ S w3 ∧ ∃ w4, (Instr.buildSlice 150 3 #[(0, .int .i64 x1), (1, .int .i64 x2), (2, .int .i64 x3)]).run Tryz.prog w3 = .ok sv w4 ∧ S w4 ∧ Calls Tryz.prog 84 #[sv] w4 fun e w5 => e = .returned (.int .i64 z) ∧ S w5)
    (h : ∀ (a' : Act) (w' : World), S w' → a' = ((((((((((((((((((a).put (some 5) (.pointer (some ⟨pb, 0 + 0, none⟩))).put (some 6) (.int .i64 p.fr)).put (some 7) (.pointer (some ⟨qb, 0 + 0, none⟩))).put (some 8) (.int .i64 q.fr)).put (some 10) (.pointer (some ⟨pb, 0 + 1, none⟩))).put (some 11) (.int .i64 p.to)).put (some 12) (.pointer (some ⟨qb, 0 + 1, none⟩))).put (some 13) (.int .i64 q.to)).put (some 15) (.pointer (some ⟨pb, 0 + 2, none⟩))).put (some 16) (.string p.nm)).put (some 17) (.pointer (some ⟨qb, 0 + 2, none⟩))).put (some 18) (.string q.nm)).put (some 9) (.int .i64 x1)).put (some 14) (.int .i64 x2)).put (some 19) (.int .i64 x3)).put (some 20) (sv)).put (some 21) (.int .i64 z)).put (some 4) (.int .i64 z) → Q .normal a' w') :
    (Code.region 1 srt1_ops true).wp Tryz.prog Q a w := by
  refine y0 (fun w' => S w') (h0) (fun hHeld => ?_)
  refine yv 0 rfl rfl (fun w1 hw => xfa rfl (zi t2 rfl) (fg_65_0 _ _ _)) hHeld ?_
  refine yv 1 rfl rfl (fun w1 hw => xld rfl (zg zz rfl) (Lpb0 _ hw)) hHeld ?_
  refine yv 2 rfl rfl (fun w1 hw => xfa rfl (zi t3 rfl) (fg_65_0 _ _ _)) hHeld ?_
  refine yv 3 rfl rfl (fun w1 hw => xld rfl (zg zz rfl) (Lqb0 _ hw)) hHeld ?_
  refine yv 5 rfl rfl (fun w1 hw => xfa rfl (zi t2 rfl) (fg_65_1 _ _ _)) hHeld ?_
  refine yv 6 rfl rfl (fun w1 hw => xld rfl (zg zz rfl) (Lpb1 _ hw)) hHeld ?_
  refine yv 7 rfl rfl (fun w1 hw => xfa rfl (zi t3 rfl) (fg_65_1 _ _ _)) hHeld ?_
  refine yv 8 rfl rfl (fun w1 hw => xld rfl (zg zz rfl) (Lqb1 _ hw)) hHeld ?_
  refine yv 10 rfl rfl (fun w1 hw => xfa rfl (zi t2 rfl) (fg_65_2 _ _ _)) hHeld ?_
  refine yv 11 rfl rfl (fun w1 hw => xld rfl (zg zz rfl) (Lpb2 _ hw)) hHeld ?_
  refine yv 12 rfl rfl (fun w1 hw => xfa rfl (zi t3 rfl) (fg_65_2 _ _ _)) hHeld ?_
  refine yv 13 rfl rfl (fun w1 hw => xld rfl (zg zz rfl) (Lqb2 _ hw)) hHeld ?_
  refine yc 4 rfl rfl (exec_c2 rfl (zg zz rfl) (zg zz rfl)) (CA) (fun e x4 hx => ?_)
  obtain ⟨rfl, S0, CB⟩ := hx
  refine ⟨_, rfl, S0, fun hHeld => ?_⟩
  refine yc 9 rfl rfl (exec_c2 rfl (zg zz rfl) (zg zz rfl)) (CB) (fun e x9 hx => ?_)
  obtain ⟨rfl, S1, CC⟩ := hx
  refine ⟨_, rfl, S1, fun hHeld => ?_⟩
  refine yc 14 rfl rfl (exec_c2 rfl (zg zz rfl) (zg zz rfl)) (CC) (fun e x14 hx => ?_)
  obtain ⟨rfl, S2, w4, EB, S3, CD⟩ := hx
  refine ⟨_, rfl, S2, fun hHeld => ?_⟩
  refine yr (v := sv) 15 rfl rfl (exec_buildSlice3 rfl (zg zz rfl) (zg zz rfl) (zg zz rfl) EB) (S3) (fun hHeld => ?_)
  refine yc 16 rfl rfl (exec_c1 rfl (zg zz rfl)) (CD) (fun e x16 hx => ?_)
  obtain ⟨rfl, S4⟩ := hx
  refine ⟨_, rfl, S4, fun hHeld => ?_⟩
  refine yv 17 rfl rfl (fun w1 hw => xas rfl (zg zz rfl)) hHeld ?_
  exact ye rfl (h _ _ (S4) rfl)
end Go.Proofs.YtifendlpeebofaaGreatDoor
namespace Go.Proofs.YtifendlpeebofaaGreatDoor
open Go.Shelf
def sortZ_ren : Go.Shelf.Ren := ⟨fun | 189 => 108 | 125 => 105 | 257 => 140 | 128 => 137 | 129 => 138 | 294 => 158 | 295 => 159 | 296 => 160 | 297 => 161 | 298 => 162 | 299 => 163 | 216 => 143 | 300 => 164 | 301 => 165 | 328 => 174 | 329 => 154 | 330 => 155 | 331 => 175 | 332 => 176 | 215 => 106 | 343 => 177 | n => n, fun | 28 => 150 | 3 => 3 | 46 => 156 | 0 => 0 | 51 => 191 | 53 => 123 | 4 => 4 | 183 => 185 | 182 => 184 | 131 => 161 | 5 => 5 | 9 => 9 | 218 => 205 | 222 => 209 | 228 => 222 | 229 => 140 | n => n, fun | n => n⟩
theorem sortZ : Go.Proofs.Lays.n189 Tryz.prog sortZ_ren := {
  mixed := by kernel_rfl
  f125 := Tryz.func105.trans (congrArg some (by kernel_rfl))
  f128 := Tryz.func137.trans (congrArg some (by kernel_rfl))
  f129 := Tryz.func138.trans (congrArg some (by kernel_rfl))
  f189 := Tryz.func108.trans (congrArg some (by kernel_rfl))
  f215 := Tryz.func106.trans (congrArg some (by kernel_rfl))
  f216 := Tryz.func143.trans (congrArg some (by kernel_rfl))
  f257 := Tryz.func140.trans (congrArg some (by kernel_rfl))
  f294 := Tryz.func158.trans (congrArg some (by kernel_rfl))
  f295 := Tryz.func159.trans (congrArg some (by kernel_rfl))
  f296 := Tryz.func160.trans (congrArg some (by kernel_rfl))
  f297 := Tryz.func161.trans (congrArg some (by kernel_rfl))
  f298 := Tryz.func162.trans (congrArg some (by kernel_rfl))
  f299 := Tryz.func163.trans (congrArg some (by kernel_rfl))
  f300 := Tryz.func164.trans (congrArg some (by kernel_rfl))
  f301 := Tryz.func165.trans (congrArg some (by kernel_rfl))
  f328 := Tryz.func174.trans (congrArg some (by kernel_rfl))
  f329 := Tryz.func154.trans (congrArg some (by kernel_rfl))
  f330 := Tryz.func155.trans (congrArg some (by kernel_rfl))
  f331 := Tryz.func175.trans (congrArg some (by kernel_rfl))
  f332 := Tryz.func176.trans (congrArg some (by kernel_rfl))
  f343 := Tryz.func177.trans (congrArg some (by kernel_rfl))
  t0 := Tryz.underlying0
  a0 := Tryz.isAgg0
  z0 := Tryz.sizeOf0
  v0 := Tryz.zeroValue0
  t3 := Tryz.underlying3
  a3 := Tryz.isAgg3
  z3 := Tryz.sizeOf3
  v3 := Tryz.zeroValue3
  t4 := Tryz.underlying4
  a4 := Tryz.isAgg4
  z4 := Tryz.sizeOf4
  v4 := Tryz.zeroValue4
  t5 := Tryz.underlying5
  a5 := Tryz.isAgg5
  z5 := Tryz.sizeOf5
  v5 := Tryz.zeroValue5
  t9 := Tryz.underlying9
  a9 := Tryz.isAgg9
  z9 := Tryz.sizeOf9
  v9 := Tryz.zeroValue9
  t28 := Tryz.underlying150
  a28 := Tryz.isAgg150
  z28 := Tryz.sizeOf150
  v28 := Tryz.zeroValue150
  t46 := Tryz.underlying156
  a46 := Tryz.isAgg156
  z46 := Tryz.sizeOf156
  v46 := Tryz.zeroValue156
  t51 := Tryz.underlying191
  a51 := Tryz.isAgg191
  z51 := Tryz.sizeOf191
  v51 := Tryz.zeroValue191
  t53 := Tryz.underlying123
  a53 := Tryz.isAgg123
  z53 := Tryz.sizeOf123
  v53 := Tryz.zeroValue123
  t131 := Tryz.underlying161
  a131 := Tryz.isAgg161
  z131 := Tryz.sizeOf161
  v131 := Tryz.zeroValue161
  t182 := Tryz.underlying184
  a182 := Tryz.isAgg184
  z182 := Tryz.sizeOf184
  v182 := Tryz.zeroValue184
  t183 := Tryz.underlying185
  a183 := Tryz.isAgg185
  z183 := Tryz.sizeOf185
  v183 := Tryz.zeroValue185
  t218 := Tryz.underlying205
  a218 := Tryz.isAgg205
  z218 := Tryz.sizeOf205
  v218 := Tryz.zeroValue205
  t222 := Tryz.underlying209
  a222 := Tryz.isAgg209
  z222 := Tryz.sizeOf209
  v222 := Tryz.zeroValue209
  t228 := Tryz.underlying222
  a228 := Tryz.isAgg222
  z228 := Tryz.sizeOf222
  v228 := Tryz.zeroValue222
  t229 := Tryz.underlying140
  a229 := Tryz.isAgg140
  z229 := Tryz.sizeOf140
  v229 := Tryz.zeroValue140 }
def compactZ_ren : Go.Shelf.Ren := ⟨fun | 20 => 109 | n => n, fun | 22 => 150 | 3 => 3 | 4 => 4 | 0 => 0 | n => n, fun | n => n⟩
theorem compactZ : Go.Proofs.Lays2.n20 Tryz.prog compactZ_ren := {
  mixed := by kernel_rfl
  f20 := Tryz.func109.trans (congrArg some (by kernel_rfl))
  t0 := Tryz.underlying0
  a0 := Tryz.isAgg0
  z0 := Tryz.sizeOf0
  v0 := Tryz.zeroValue0
  t3 := Tryz.underlying3
  a3 := Tryz.isAgg3
  z3 := Tryz.sizeOf3
  v3 := Tryz.zeroValue3
  t4 := Tryz.underlying4
  a4 := Tryz.isAgg4
  z4 := Tryz.sizeOf4
  v4 := Tryz.zeroValue4
  t22 := Tryz.underlying150
  a22 := Tryz.isAgg150
  z22 := Tryz.sizeOf150
  v22 := Tryz.zeroValue150
  i3 := by kernel_rfl }
def searchZ_ren : Go.Shelf.Ren := ⟨fun | 25 => 112 | 31 => 143 | 32 => 144 | 37 => 106 | n => n, fun | 22 => 150 | 3 => 3 | 4 => 4 | 40 => 156 | 0 => 0 | n => n, fun | n => n⟩
theorem searchZ : Go.Proofs.Lays2.n25 Tryz.prog searchZ_ren := {
  mixed := by kernel_rfl
  f25 := Tryz.func112.trans (congrArg some (by kernel_rfl))
  f31 := Tryz.func143.trans (congrArg some (by kernel_rfl))
  f32 := Tryz.func144.trans (congrArg some (by kernel_rfl))
  f37 := Tryz.func106.trans (congrArg some (by kernel_rfl))
  t0 := Tryz.underlying0
  a0 := Tryz.isAgg0
  z0 := Tryz.sizeOf0
  v0 := Tryz.zeroValue0
  t3 := Tryz.underlying3
  a3 := Tryz.isAgg3
  z3 := Tryz.sizeOf3
  v3 := Tryz.zeroValue3
  t4 := Tryz.underlying4
  a4 := Tryz.isAgg4
  z4 := Tryz.sizeOf4
  v4 := Tryz.zeroValue4
  t22 := Tryz.underlying150
  a22 := Tryz.isAgg150
  z22 := Tryz.sizeOf150
  v22 := Tryz.zeroValue150
  t40 := Tryz.underlying156
  a40 := Tryz.isAgg156
  z40 := Tryz.sizeOf156
  v40 := Tryz.zeroValue156 }
end Go.Proofs.YtifendlpeebofaaGreatDoor
namespace Go.Proofs.YtifendlpeebofaaGreatDoor
open Go.RowKit
def Vals (w : World) (a : Option Addr) (X : List Value) : Prop := X = [] ∨ ∃ b off, a = some ⟨b, off, none⟩ ∧ ∀ j u, X[j]? = some u → w.cell? ⟨b, off + j, none⟩ = some u
def OwnV (w : World) (base : Nat) (e : TypeId) (v : Value) (X : List Value) : Prop := w.ownsRow base e 1 v X.length X
theorem OwnV.below {w w' : World} {base : Nat} {e : TypeId} {v : Value} {X : List Value} (h : OwnV w base e v X) (hb : Below w.heap.size w w') : OwnV w' base e v X := by
  refine ⟨h.1, ?_⟩
  rcases h.2 with hn | ⟨g, cap, cur, rfl, hbg, hg, rest⟩
  · exact .inl hn
  · exact .inr ⟨g, cap, cur, rfl, hbg, by rw [hb.block g (Array.getElem?_eq_some_iff.1 hg).1]; exact hg, rest⟩
theorem OwnV.keep {w w' : World} {base : Nat} {e : TypeId} {v : Value} {X : List Value} (h : OwnV w base e v X) (hk : ∀ k, v.ownBlock = some k → w'.heap[k]? = w.heap[k]?) : OwnV w' base e v X := by
  refine ⟨h.1, ?_⟩
  rcases h.2 with hn | ⟨g, cap, cur, rfl, hbg, hg, rest⟩
  · exact .inl hn
  · exact .inr ⟨g, cap, cur, rfl, hbg, by rw [hk g rfl]; exact hg, rest⟩
theorem OwnV.ge {w : World} {base : Nat} {e : TypeId} {v : Value} {X : List Value} (h : OwnV w base e v X) : ∀ j, v.ownBlock = some j → base ≤ j ∧ ∃ c, w.heap[j]? = some (.cells c e (0, 0)) := by
  intro j hj
  rcases h.2 with ⟨rfl, hn⟩ | ⟨g, cap, cur, rfl, hbg, hg, rest⟩
  · cases hj
  · obtain rfl : g = j := by simpa [Value.ownBlock] using hj
    exact ⟨hbg, _, hg⟩
theorem OwnV.open {w : World} {base : Nat} {e : TypeId} {v : Value} {X : List Value} (h : OwnV w base e v X) :
    ∃ a cap, v = .slice a X.length cap ∧ X.length ≤ cap ∧ Vals w a X ∧ (a = none → X = [] ∧ cap = 0) := by
  rcases h.2 with ⟨rfl, hn⟩ | ⟨g, cap, cur, rfl, hbg, hg, hnc, hcm, hcs, htake⟩
  · obtain rfl : X = [] := List.eq_nil_of_length_eq_zero hn
    exact ⟨none, 0, rfl, Nat.le_refl _, .inl rfl, fun _ => ⟨rfl, rfl⟩⟩
  · refine ⟨some ⟨g, 0, none⟩, cap, rfl, hnc, .inr ⟨g, 0, rfl, fun j u hj => ?_⟩, fun h => by cases h⟩
    rw [Nat.zero_add, cell_of_row w g j cur e (0, 0) hg]
    rw [← htake, List.getElem?_take] at hj
    split at hj
    · simpa using hj
    · cases hj
theorem run_appV (T e y : TypeId) (z : Value) (ht : Tryz.prog.underlying T = some (.slice e)) (hi : (Tryz.prog.info? e).map (fun i => (i.zero, i.size, i.bytes)) = some (some z, 1, y)) (hy : y = 8 ∨ y = 24) (hz1 : z.cells.size = 1)
    (w : World) (base : Nat) (ty : TypeId) (v : Value) (L : List Value) (a : Option Addr) (M : List Value) (c : Nat) (hown : OwnV w base e v L) (hb : Vals w a M) (h1 : ∀ u ∈ M, u.oneCell' = true)
    (h : L.length + M.length ≤ 2000000000000) (hbase : base ≤ w.heap.size) :
    ∃ v' w', (Builtin.append_ #[T, T] ty #[v, .slice a M.length c]).run Tryz.prog w = .ok v' w' ∧ OwnV w' base e v' (L ++ M) ∧ w.grownBy w' v.ownBlock ∧ (v'.ownBlock = v.ownBlock ∨ v'.ownBlock = some w.heap.size) := by
  obtain ⟨i, hi, hz, hs, hby⟩ := info_parts hi
  cases a with
  | some ad =>
    have hnews : ∀ j u, M[j]? = some u → w.cell? (ad.add j) = some u := fun j u hj => by
      rcases hb with rfl | ⟨b, off, e, hc⟩
      · simp at hj
      · cases e
        rw [Addr.add_mid]
        exact hc j u hj
    obtain ⟨v', w', hr, h2, h3, h5⟩ := app_at (P := Tryz.prog) w base T ty e i z 1 y ht hi hz hs hby hz1 (by decide) v L.length L hown ad M.length c M (by omega) hnews h1 (by unfold maxLen; omega) (by rcases hy with rfl | rfl <;> omega) hbase
    refine ⟨v', w', hr, ?_, h3, h5⟩
    unfold OwnV
    rw [List.length_append]
    exact h2
  | none =>
    obtain rfl : M = [] := by
      rcases hb with rfl | ⟨b, off, e, _⟩
      · rfl
      · cases e
    rcases hown.2 with ⟨rfl, hn⟩ | ⟨g, cap, cur, rfl, hbg, hg, hnc, rest⟩
    · refine ⟨.slice none 0 0, w, ?_, by rw [List.append_nil]; exact hown, ⟨rfl, rfl, rfl, Nat.le_refl _, fun _ _ _ => rfl⟩, .inl rfl⟩
      simp [Builtin.append_, run_underlying ht, sizeOf, typeInfo, hi, Builtin.lenOf, Builtin.firstCells, loadCells, loadCellsFrom]
    · refine ⟨.slice (some ⟨g, 0, none⟩) L.length cap, w, ?_, by rw [List.append_nil]; exact hown, ⟨rfl, rfl, rfl, Nat.le_refl _, fun _ _ _ => rfl⟩, .inl rfl⟩
      simp [Builtin.append_, run_underlying ht, sizeOf, typeInfo, hi, Builtin.lenOf, Builtin.firstCells, hnc, storeCells]
theorem OwnV.lt {w : World} {base : Nat} {e : TypeId} {v : Value} {X : List Value} (h : OwnV w base e v X) {k : Nat} (hk : v.ownBlock = some k) : k < w.heap.size := by
  obtain ⟨_, c, q⟩ := h.ge k hk
  exact (Array.getElem?_eq_some_iff.1 q).1
def cSp (p q : SpV) : Int := or3 (cI p.fr q.fr) (cI p.to q.to) (cS p.nm q.nm)
theorem to_cSp : TO cSp := by
  have h := to_cI.lex (to_cI.lex to_cS)
  exact ⟨fun a b => h.anti (a.fr, a.to, a.nm) (b.fr, b.to, b.nm), fun a b d => h.le (a.fr, a.to, a.nm) (b.fr, b.to, b.nm) (d.fr, d.to, d.nm), fun a b d => h.lt (a.fr, a.to, a.nm) (b.fr, b.to, b.nm) (d.fr, d.to, d.nm)⟩
section
variable {W : World} {b : Nat} {x : SpV}
theorem sp_fr (h : RSp.Bx W b x) : (Instr.loadAt 3 (.pointer (some ⟨b, 0 + 0, none⟩))).run Tryz.prog W = .ok (.int .i64 x.fr) W := by
  have hc : W.cell? ⟨b, 0, none⟩ = some (.int .i64 x.fr) := (cell_of_row W b 0 _ _ _ h).trans rfl
  go_simp
theorem sp_to (h : RSp.Bx W b x) : (Instr.loadAt 3 (.pointer (some ⟨b, 0 + 1, none⟩))).run Tryz.prog W = .ok (.int .i64 x.to) W := by
  have hc : W.cell? ⟨b, 1, none⟩ = some (.int .i64 x.to) := (cell_of_row W b 1 _ _ _ h).trans rfl
  go_simp
theorem sp_nm (h : RSp.Bx W b x) : (Instr.loadAt 9 (.pointer (some ⟨b, 0 + 2, none⟩))).run Tryz.prog W = .ok (.string x.nm) W := by
  have hc : W.cell? ⟨b, 2, none⟩ = some (.string x.nm) := (cell_of_row W b 2 _ _ _ h).trans rfl
  go_simp
end
theorem run_bs3 (a b c : Int) (w : World) : (Instr.buildSlice 150 3 #[(0, .int .i64 a), (1, .int .i64 b), (2, .int .i64 c)]).run Tryz.prog w = .ok (.slice (some ⟨w.heap.size, 0, none⟩) 3 3) (w.alloc (.cells #[.int .i64 a, .int .i64 b, .int .i64 c] 3)) := by
  kernel_rfl
theorem cmpSp_any (p q : SpV) (w : World) : Calls Tryz.prog 83 #[p.a, q.a] w fun e w' => e = .returned (.int .i64 (cSp p q)) ∧ Below w.heap.size w w' ∧ w.drawn ≤ w'.drawn := by
  obtain ⟨W, hW⟩ : ∃ W, (w.alloc (.cells p.c.toArray 65)).alloc (.cells q.c.toArray 65) = W := ⟨_, rfl⟩
  have zW : W.heap.size = w.heap.size + 2 := by rw [← hW]; simp
  have S0 : Hid (RSp.Bx W w.heap.size p ∧ RSp.Bx W (w.heap.size + 1) q ∧ Below w.heap.size w W ∧ w.drawn ≤ W.drawn) := by
    refine ⟨?_, ?_, ?_, ?_⟩
    · rw [← hW]
      show _ = _
      rw [Below.heap_alloc _ _ _ (by simp)]; exact heap_alloc_new _ _
    · rw [← hW]
      have := heap_alloc_new (w.alloc (.cells p.c.toArray 65)) (.cells q.c.toArray 65)
      rw [show (w.alloc (.cells p.c.toArray 65)).heap.size = w.heap.size + 1 by simp] at this
      exact this
    · rw [← hW]; exact ((Below.refl _ _).alloc (Nat.le_refl _) _).alloc (by simp) _
    · rw [← hW]; exact Nat.le_refl _
  have HK : Hid (∀ {X : World} {v : Array Value} {t : TypeId}, (RSp.Bx X w.heap.size p ∧ RSp.Bx X (w.heap.size + 1) q ∧ Below w.heap.size w X ∧ w.drawn ≤ X.drawn) → (RSp.Bx (X.alloc (.cells v t)) w.heap.size p ∧ RSp.Bx (X.alloc (.cells v t)) (w.heap.size + 1) q ∧ Below w.heap.size w (X.alloc (.cells v t)) ∧ w.drawn ≤ (X.alloc (.cells v t)).drawn)) := fun {X v t} h => by
    have b : Below X.heap.size X (X.alloc (.cells v t)) := (Below.refl _ _).alloc (Nat.le_refl _) _
    exact ⟨h.1.below b, h.2.1.below b, h.2.2.1.trans (b.mono h.2.2.1.size), h.2.2.2⟩
  have HX := hidMk hW
  clear hW
  unfold SpV.a
  go_enter Tryz.func83, Tryz.ntmps83
  go_upto_region 1 with fail
  rw [HX.out]
  clear HX
  have D0 : Hid (RSp.Bx W.drew w.heap.size p ∧ RSp.Bx W.drew (w.heap.size + 1) q ∧ Below w.heap.size w W.drew ∧ w.drawn ≤ W.drew.drawn) := ⟨S0.out.1, S0.out.2.1, S0.out.2.2.1.drew, Nat.le_trans S0.out.2.2.2 (Nat.le_succ _)⟩
  refine srt1 (p := p) (q := q) (pb := w.heap.size) (qb := w.heap.size + 1) (x1 := cI p.fr q.fr) (x2 := cI p.to q.to) (x3 := cS p.nm q.nm) (z := cSp p q) (sv := .slice (some ⟨W.drew.heap.size, 0, none⟩) 3 3) (fun X => RSp.Bx X w.heap.size p ∧ RSp.Bx X (w.heap.size + 1) q ∧ Below w.heap.size w X ∧ w.drawn ≤ X.drawn) _ W _ rfl rfl rfl D0.out
    (fun X h => sp_fr h.1) (fun X h => sp_to h.1) (fun X h => sp_nm h.1) (fun X h => sp_fr h.2.1) (fun X h => sp_to h.2.1) (fun X h => sp_nm h.2.1) ((cmpN _ _ _).mono ?_) ?_
  · rintro e _ ⟨rfl, rfl⟩
    refine ⟨rfl, D0.out, (cmpN _ _ _).mono ?_⟩
    rintro e _ ⟨rfl, rfl⟩
    refine ⟨rfl, D0.out, (cmpS_any _ _ _).mono ?_⟩
    rintro e _ ⟨rfl, rfl⟩
    refine ⟨rfl, D0.out, _, run_bs3 _ _ _ _, HK.out D0.out, (or_any W.drew.heap.size _ _ _ _ 3 (0, 0) (heap_alloc_new _ _)).mono ?_⟩
    rintro e _ ⟨rfl, rfl⟩
    exact ⟨rfl, HK.out D0.out⟩
  intro a' w2 hf ha
  subst ha
  simp only [Act.put, List.setIfInBounds_toArray, List.set_cons_zero, List.set_cons_succ]
  have HF := hidMk hf
  clear hf D0 S0 HK zW
  go_wp2
  go_ret
  exact ⟨rfl, HF.out.2.2.1, HF.out.2.2.2⟩
def SdS (L : List SpV) : Prop := L.Pairwise fun x y => cSp x y ≤ 0
def SrtS (W : World) (base : Nat) (v : Value) (L : List SpV) (e : Ending) (w' : World) : Prop := e = .returned (.tuple #[]) ∧ ∃ L', L'.Perm L ∧ SdS L' ∧ RSp.Lo w' base v L' ∧ Tch (fun j => v.ownBlock = some j) W w'
end Go.Proofs.YtifendlpeebofaaGreatDoor
namespace Go.Proofs.YtifendlpeebofaaGreatDoor
theorem cI_zero {a b : Int} (h : cI a b = 0) : a = b := by unfold cI at h; split at h; · omega
                                                           · split at h <;> omega
theorem cS_zero {a b : ByteArray} (h : cS a b = 0) : a = b := by
  rcases cS_val a b with ⟨_, e⟩ | ⟨p, _⟩ | ⟨_, e⟩
  · omega
  · exact ba_inj p
  · omega
theorem cSp_zero {p q : SpV} (h : cSp p q = 0) : p.fr = q.fr ∧ p.to = q.to ∧ p.nm = q.nm := by
  unfold cSp or3 at h
  split at h
  · next h1 =>
    split at h
    · next h2 => exact ⟨cI_zero h1, cI_zero h2, cS_zero h⟩
    · next h2 => exact absurd h h2
  · next h1 => exact absurd h h1
def Run (h : ByteArray → Int → Option VaV) (p : SpV) : Prop := p.fr < p.to ∧ (∀ j, p.fr ≤ j → j < p.to → h p.nm j = some p.v) ∧ h p.nm (p.fr - 1) ≠ some p.v ∧ h p.nm p.to ≠ some p.v
structure SpansIs (h : ByteArray → Int → Option VaV) (S : List SpV) : Prop where
  srt : S.Pairwise (fun p q => cSp p q < 0)
  mem : ∀ p, p ∈ S ↔ Run h p
theorem cSp_self (p : SpV) : cSp p p = 0 := by have := to_cSp.anti p p; omega
theorem srt_unique : ∀ {S T : List SpV}, S.Pairwise (fun p q => cSp p q < 0) → T.Pairwise (fun p q => cSp p q < 0) → (∀ p, p ∈ S ↔ p ∈ T) → S = T
  | [], [], _, _, _ => rfl
  | [], q :: T, _, _, h => by have := (h q).2 (by simp); cases this
  | p :: S, [], _, _, h => by have := (h p).1 (by simp); cases this
  | p :: S, q :: T, h1, h2, h => by
    have a1 := List.pairwise_cons.1 h1
    have a2 := List.pairwise_cons.1 h2
    have e : p = q := by
      by_cases e : p = q
      · exact e
      · have m1 : p ∈ T := by
          rcases List.mem_cons.1 ((h p).1 (by simp)) with x | x
          · exact absurd x e
          · exact x
        have m2 : q ∈ S := by
          rcases List.mem_cons.1 ((h q).2 (by simp)) with x | x
          · exact absurd x.symm e
          · exact x
        have l1 := a1.1 q m2
        have l2 := a2.1 p m1
        have := to_cSp.anti p q
        omega
    subst e
    have n1 : ∀ r ∈ S, r ≠ p := fun r hr e => by have := a1.1 r hr; rw [e, cSp_self] at this; omega
    have n2 : ∀ r ∈ T, r ≠ p := fun r hr e => by have := a2.1 r hr; rw [e, cSp_self] at this; omega
    rw [srt_unique a1.2 a2.2 (fun r => ⟨fun hr => by
      rcases List.mem_cons.1 ((h r).1 (by simp [hr])) with x | x
      · exact absurd x (n1 r hr)
      · exact x, fun hr => by
      rcases List.mem_cons.1 ((h r).2 (by simp [hr])) with x | x
      · exact absurd x (n2 r hr)
      · exact x⟩)]
theorem SpansIs.unique {h : ByteArray → Int → Option VaV} {S T : List SpV} (a : SpansIs h S) (b : SpansIs h T) : S = T :=
  srt_unique a.srt b.srt (fun p => (a.mem p).trans (b.mem p).symm)
theorem Run.eq {h : ByteArray → Int → Option VaV} {p q : SpV} (a : Run h p) (b : Run h q) (e : p.nm = q.nm) {j : Int} (h1 : p.fr ≤ j) (h2 : j < p.to) (h3 : q.fr ≤ j) (h4 : j < q.to) : p = q := by
  obtain ⟨pf, pt, pn, pv⟩ := p
  obtain ⟨qf, qt, qn, qv⟩ := q
  simp only at e h1 h2 h3 h4
  subst e
  obtain ⟨a1, a2, a3, a4⟩ := a
  obtain ⟨b1, b2, b3, b4⟩ := b
  simp only at a1 a2 a3 a4 b1 b2 b3 b4
  have ev : pv = qv := by have := a2 j h1 h2; rw [b2 j h3 h4] at this; exact (Option.some.inj this).symm
  subst ev
  have e1 : pf = qf := by
    rcases Int.lt_trichotomy pf qf with x | x | x
    · exact absurd (a2 (qf - 1) (by omega) (by omega)) b3
    · exact x
    · exact absurd (b2 (pf - 1) (by omega) (by omega)) a3
  have e2 : pt = qt := by
    rcases Int.lt_trichotomy pt qt with x | x | x
    · exact absurd (b2 pt (by omega) (by omega)) a4
    · exact x
    · exact absurd (a2 qt (by omega) (by omega)) b4
  subst e1 e2
  rfl
theorem Run.eq_fr {h : ByteArray → Int → Option VaV} {p q : SpV} (a : Run h p) (b : Run h q) (e : p.nm = q.nm) (h1 : p.fr = q.fr) : p = q :=
  a.eq b e (Int.le_refl _) a.1 (by omega) (by have := b.1; omega)
theorem spans_of {h : ByteArray → Int → Option VaV} {S : List SpV} (hs : S.Pairwise (fun p q => cSp p q ≤ 0)) (hn : S.Nodup) (hm : ∀ p, p ∈ S ↔ Run h p) : SpansIs h S := by
  refine ⟨?_, hm⟩
  have : S.Pairwise (fun p q => cSp p q ≤ 0 ∧ p ≠ q) := hs.and hn
  refine this.imp_of_mem (fun {p q} hp hq hpq => ?_)
  obtain ⟨h1, h2⟩ := hpq
  by_cases h0 : cSp p q = 0
  · obtain ⟨e1, e2, e3⟩ := cSp_zero h0
    exact absurd (((hm p).1 hp).eq_fr ((hm q).1 hq) e3 e1) h2
  · omega
/-! ### what holds, of covers in the order in which they were added -/
def inC (j : Int) (c : SpV) : Bool := decide (c.fr ≤ j ∧ j < c.to)
def lastI : List SpV → Int → Option Nat
  | [], _ => none
  | c :: C, j => match lastI C j with
    | some i => some (i + 1)
    | none => if inC j c = true then some 0 else none
def valI (C : List SpV) (o : Option Nat) : Option VaV := match o with
  | some i => match C[i]? with
    | some c => if c.v.k = 0 then none else some c.v
    | none => none
  | none => none
def valC (C : List SpV) (j : Int) : Option VaV := valI C (lastI C j)
theorem lastI_none : ∀ {C : List SpV} {j : Int}, lastI C j = none ↔ ∀ c ∈ C, inC j c = false
  | [], j => by simp [lastI]
  | c :: C, j => by
    have ih := lastI_none (C := C) (j := j)
    unfold lastI
    cases h : lastI C j with
    | some i =>
      simp only [reduceCtorEq, false_iff]
      intro q
      rw [h] at ih
      have := ih.2 (fun x hx => q x (by simp [hx]))
      cases this
    | none =>
      have i2 := ih.1 h
      simp only [List.mem_cons, forall_eq_or_imp]
      cases hc : inC j c <;> simp_all
theorem lastI_some : ∀ {C : List SpV} {j : Int} {i : Nat}, lastI C j = some i ↔ ∃ c, C[i]? = some c ∧ inC j c = true ∧ ∀ k d, i < k → C[k]? = some d → inC j d = false
  | [], j, i => by simp [lastI]
  | c :: C, j, i => by
    unfold lastI
    cases h : lastI C j with
    | some m =>
      obtain ⟨d, h1, h2, h3⟩ := lastI_some.1 h
      simp only [Option.some.injEq]
      constructor
      · rintro rfl
        refine ⟨d, by simpa using h1, h2, fun k e hk he => ?_⟩
        cases k with
        | zero => omega
        | succ k => exact h3 k e (by omega) (by simpa using he)
      · rintro ⟨e, h4, h5, h6⟩
        rcases Nat.lt_trichotomy (m + 1) i with x | x | x
        · cases i with
          | zero => omega
          | succ i =>
            have := h3 i e (by omega) (by simpa using h4)
            rw [h5] at this; cases this
        · exact x
        · have := h6 (m + 1) d x (by simpa using h1)
          rw [h2] at this; cases this
    | none =>
      have hn := lastI_none.1 h
      simp only
      constructor
      · intro q
        split at q
        · next hc =>
          cases q
          refine ⟨c, rfl, hc, fun k e hk he => ?_⟩
          cases k with
          | zero => omega
          | succ k => exact hn e (List.mem_of_getElem? (by simpa using he))
        · cases q
      · rintro ⟨e, h4, h5, h6⟩
        cases i with
        | zero =>
          simp only [List.getElem?_cons_zero, Option.some.injEq] at h4
          subst h4
          rw [if_pos h5]
        | succ i =>
          have := hn e (List.mem_of_getElem? (by simpa using h4))
          rw [h5] at this; cases this
theorem lastI_congr {j k : Int} : ∀ {C : List SpV}, (∀ c ∈ C, inC j c = inC k c) → lastI C j = lastI C k
  | [], _ => rfl
  | c :: C, h => by
    unfold lastI
    rw [lastI_congr (C := C) (fun x hx => h x (by simp [hx])), h c (by simp)]
/-! ### runs out of pieces -/
def rstep (l : List SpV) (p : SpV) : List SpV := match l.getLast? with
  | some q => if q.to = p.fr ∧ q.v = p.v then l.dropLast ++ [⟨q.fr, p.to, q.nm, q.v⟩] else l ++ [p]
  | none => l ++ [p]
structure RunsTo (h : Int → Option VaV) (nm : ByteArray) (z : Int) (l : List SpV) : Prop where
  nm : ∀ p ∈ l, p.nm = nm
  in' : ∀ p ∈ l, p.fr < p.to ∧ p.to ≤ z ∧ (∀ j, p.fr ≤ j → j < p.to → h j = some p.v) ∧ h (p.fr - 1) ≠ some p.v
  pw : l.Pairwise (fun p q => p.to ≤ q.fr)
  ends : ∀ (l1 l2 : List SpV) (p : SpV), l = l1 ++ p :: l2 → h p.to ≠ some p.v ∨ (p.to = z ∧ l2 = [])
  all : ∀ j v, j < z → h j = some v → ∃ p ∈ l, p.fr ≤ j ∧ j < p.to
theorem RunsTo.skip {h : Int → Option VaV} {nm : ByteArray} {z y : Int} {l : List SpV} (r : RunsTo h nm z l) (hz : z < y) (h0 : ∀ j, z ≤ j → j < y → h j = none) : RunsTo h nm y l := by
  refine ⟨r.nm, fun p hp => ?_, r.pw, fun l1 l2 p e => ?_, fun j v hj hv => ?_⟩
  · obtain ⟨a, b, c, d⟩ := r.in' p hp
    exact ⟨a, by omega, c, d⟩
  · rcases r.ends l1 l2 p e with x | ⟨x, rfl⟩
    · exact .inl x
    · exact .inl (by rw [x, h0 z (by omega) hz]; exact fun q => by cases q)
  · by_cases q : j < z
    · exact r.all j v q hv
    · rw [h0 j (by omega) hj] at hv; cases hv
theorem RunsTo.step {h : Int → Option VaV} {nm : ByteArray} {z y : Int} {l : List SpV} (r : RunsTo h nm z l) (hz : z < y) {v : VaV} (h0 : ∀ j, z ≤ j → j < y → h j = some v) : RunsTo h nm y (rstep l ⟨z, y, nm, v⟩) := by
  unfold rstep
  cases hl : l.getLast? with
  | none =>
    rw [List.getLast?_eq_none_iff] at hl
    subst hl
    simp only [List.nil_append]
    refine ⟨by simp, fun p hp => ?_, by simp, fun l1 l2 p e => ?_, fun j w hj hw => ?_⟩
    · rw [List.mem_singleton] at hp
      subst hp
      refine ⟨hz, Int.le_refl _, h0, fun q => ?_⟩
      obtain ⟨p, hp, _⟩ := r.all (z - 1) v (by omega) q
      cases hp
    · cases l1 with
      | nil => simp only [List.nil_append, List.cons.injEq] at e; exact .inr ⟨by rw [← e.1], e.2.symm⟩
      | cons a l1 => simp at e
    · by_cases q : j < z
      · obtain ⟨p, hp, _⟩ := r.all j w q hw
        cases hp
      · exact ⟨_, List.mem_singleton.2 rfl, by show z ≤ j; omega, hj⟩
  | some q =>
    obtain ⟨l0, rfl⟩ := List.getLast?_eq_some_iff.1 hl
    have hq := r.in' q (by simp)
    simp only [List.dropLast_concat]
    split
    · next hc =>
      obtain ⟨c1, c2⟩ := hc
      have pw := List.pairwise_append.1 r.pw
      refine ⟨fun p hp => ?_, fun p hp => ?_, ?_, fun l1 l2 p e => ?_, fun j w hj hw => ?_⟩
      · rcases List.mem_append.1 hp with x | x
        · exact r.nm p (by simp [x])
        · rw [List.mem_singleton] at x; rw [x]; exact r.nm q (by simp)
      · rcases List.mem_append.1 hp with x | x
        · obtain ⟨a, b, c, d⟩ := r.in' p (by simp [x])
          exact ⟨a, by omega, c, d⟩
        · rw [List.mem_singleton] at x
          subst x
          refine ⟨by show q.fr < y; omega, Int.le_refl _, fun j h1 h2 => ?_, hq.2.2.2⟩
          show h j = some q.v
          by_cases g : j < z
          · exact hq.2.2.1 j h1 (by omega)
          · rw [h0 j (by omega) h2, c2]
      · refine List.pairwise_append.2 ⟨pw.1, by simp, fun p hp s hs => ?_⟩
        rw [List.mem_singleton] at hs
        subst hs
        exact pw.2.2 p hp q (by simp)
      · rcases List.eq_nil_or_concat l2 with rfl | ⟨l3, t, rfl⟩
        · have : p = (⟨q.fr, y, q.nm, q.v⟩ : SpV) := by
            have := congrArg List.getLast? e
            simp at this
            exact this.symm
          exact .inr ⟨by rw [this], rfl⟩
        · have e2 : l0 = l1 ++ p :: l3 := by
            have := congrArg List.dropLast e
            simp only [List.dropLast_concat] at this
            rw [this, show l1 ++ p :: (l3.concat t) = (l1 ++ p :: l3) ++ [t] by simp, List.dropLast_concat]
          rcases r.ends l1 (l3 ++ [q]) p (by rw [e2]; simp) with x | ⟨_, x⟩
          · exact .inl x
          · simp at x
      · by_cases g : j < z
        · obtain ⟨p, hp, h1, h2⟩ := r.all j w g hw
          rcases List.mem_append.1 hp with x | x
          · exact ⟨p, by simp [x], h1, h2⟩
          · rw [List.mem_singleton] at x
            subst x
            exact ⟨_, List.mem_append.2 (.inr (List.mem_singleton.2 rfl)), h1, by show j < y; omega⟩
        · exact ⟨_, List.mem_append.2 (.inr (List.mem_singleton.2 rfl)), by show q.fr ≤ j; omega, hj⟩
    · next hc =>
      refine ⟨fun p hp => ?_, fun p hp => ?_, ?_, fun l1 l2 p e => ?_, fun j w hj hw => ?_⟩
      · rcases List.mem_append.1 hp with x | x
        · exact r.nm p x
        · rw [List.mem_singleton] at x; rw [x]
      · rcases List.mem_append.1 hp with x | x
        · obtain ⟨a, b, c, d⟩ := r.in' p x
          exact ⟨a, by omega, c, d⟩
        · rw [List.mem_singleton] at x
          subst x
          refine ⟨hz, Int.le_refl _, h0, fun g => ?_⟩
          show False
          obtain ⟨p, hp, h1, h2⟩ := r.all (z - 1) v (by omega) g
          have pw := List.pairwise_append.1 r.pw
          rcases List.mem_append.1 hp with x | x
          · have a1 := pw.2.2 p x q (by simp)
            have := hq.1
            have := hq.2.1
            omega
          · rw [List.mem_singleton] at x
            subst x
            have a3 := hq.2.2.1 (z - 1) h1 h2
            simp only at g
            rw [g] at a3
            exact hc ⟨by have := hq.2.1; omega, (Option.some.inj a3).symm⟩
      · refine List.pairwise_append.2 ⟨r.pw, by simp, fun p hp s hs => ?_⟩
        rw [List.mem_singleton] at hs
        subst hs
        exact (r.in' p hp).2.1
      · rcases List.eq_nil_or_concat l2 with rfl | ⟨l3, t, rfl⟩
        · have : p = ⟨z, y, nm, v⟩ := by
            have := congrArg List.getLast? e
            simp at this
            exact this.symm
          exact .inr ⟨by rw [this], rfl⟩
        · have e2 : l0 ++ [q] = l1 ++ p :: l3 := by
            have := congrArg List.dropLast e
            simp only [List.dropLast_concat] at this
            rw [this, show l1 ++ p :: (l3.concat t) = (l1 ++ p :: l3) ++ [t] by simp, List.dropLast_concat]
          rcases r.ends l1 l3 p e2 with x | ⟨x1, x2⟩
          · exact .inl x
          · subst x2
            have e3 : q = p := by
              have := congrArg List.getLast? e2
              simp at this
              exact this
            subst e3
            refine .inl (fun g => hc ⟨x1, ?_⟩)
            rw [x1, h0 z (by omega) hz] at g
            exact (Option.some.inj g).symm
      · by_cases g : j < z
        · obtain ⟨p, hp, h1, h2⟩ := r.all j w g hw
          exact ⟨p, List.mem_append.2 (.inl hp), h1, h2⟩
        · exact ⟨_, List.mem_append.2 (.inr (List.mem_singleton.2 rfl)), by show z ≤ j; omega, hj⟩
theorem RunsTo.mem {h : ByteArray → Int → Option VaV} {nm : ByteArray} {z : Int} {l : List SpV} (r : RunsTo (h nm) nm z l) (hz : ∀ j, z ≤ j → h nm j = none) (p : SpV) : p ∈ l ↔ Run h p ∧ p.nm = nm := by
  have one : ∀ p ∈ l, Run h p ∧ p.nm = nm := fun p hp => by
    obtain ⟨a, b, c, d⟩ := r.in' p hp
    have e := r.nm p hp
    refine ⟨⟨a, by rw [e]; exact c, by rw [e]; exact d, ?_⟩, e⟩
    rw [e]
    obtain ⟨l1, l2, rfl⟩ := List.append_of_mem hp
    rcases r.ends l1 l2 p rfl with x | ⟨x, _⟩
    · exact x
    · rw [x, hz z (Int.le_refl _)]; exact fun q => by cases q
  refine ⟨one p, fun ⟨hp, e⟩ => ?_⟩
  have h1 := hp.2.1 p.fr (Int.le_refl _) hp.1
  rw [e] at h1
  have hlt : p.fr < z := by
    rcases Int.lt_or_le p.fr z with x | x
    · exact x
    · rw [hz p.fr x] at h1; cases h1
  obtain ⟨q, hq, h2, h3⟩ := r.all p.fr p.v hlt h1
  obtain ⟨hq1, hq2⟩ := one q hq
  rw [hp.eq hq1 (e.trans hq2.symm) (Int.le_refl _) hp.1 h2 h3]
  exact hq
theorem RunsTo.nodup {h : Int → Option VaV} {nm : ByteArray} {z : Int} {l : List SpV} (r : RunsTo h nm z l) : l.Nodup := by
  refine r.pw.imp_of_mem (fun {p q} hp hq hpq e => ?_)
  subst e
  have := (r.in' p hp).1
  omega
/-! ### which cover holds for a piece, as they are gone through from the last one down -/
def hI (C : List SpV) (i : Nat) (j : Int) : Int := match lastI C j with
  | some r => if i ≤ r then (r : Int) else -1
  | none => -1
theorem lastI_lt {C : List SpV} {j : Int} {r : Nat} (h : lastI C j = some r) : r < C.length := by
  obtain ⟨c, h1, _⟩ := lastI_some.1 h
  exact (List.getElem?_eq_some_iff.1 h1).1
theorem hI_len (C : List SpV) (j : Int) : hI C C.length j = -1 := by
  unfold hI
  cases h : lastI C j with
  | none => rfl
  | some r => have := lastI_lt h; simp only; rw [if_neg (by omega)]
theorem hI_step {C : List SpV} {i : Nat} {c : SpV} (hc : C[i]? = some c) (j : Int) : hI C i j = if hI C (i + 1) j = -1 then (if inC j c = true then (i : Int) else -1) else hI C (i + 1) j := by
  unfold hI
  cases h : lastI C j with
  | none =>
    simp only [if_true]
    rw [if_neg (by rw [lastI_none.1 h c (List.mem_of_getElem? hc)]; decide)]
  | some r =>
    obtain ⟨d, h1, h2, h3⟩ := lastI_some.1 h
    simp only
    rcases Nat.lt_trichotomy r i with x | x | x
    · have n1 : ¬ i ≤ r := by omega
      have n2 : ¬ i + 1 ≤ r := by omega
      simp only [if_neg n1, if_neg n2, if_true, h3 i c x hc, Bool.false_eq_true, if_false]
    · subst x
      rw [hc] at h1; cases h1
      have n2 : ¬ r + 1 ≤ r := by omega
      simp only [Nat.le_refl, if_neg n2, if_true, h2]
    · have n1 : i ≤ r := by omega
      have n2 : i + 1 ≤ r := by omega
      have n3 : ¬ ((r : Int) = -1) := by omega
      simp only [if_pos n1, if_pos n2, if_neg n3]
theorem hI_done {C : List SpV} {i : Nat} {j : Int} (h : hI C i j ≠ -1) : hI C 0 j = hI C i j := by
  unfold hI at *
  cases e : lastI C j with
  | none => rfl
  | some r =>
    rw [e] at h
    simp only at h ⊢
    by_cases q : i ≤ r
    · rw [if_pos q, if_pos (Nat.zero_le _)]
    · rw [if_neg q] at h; exact absurd rfl h
def valN (C : List SpV) (z : Int) : Option VaV := if z = -1 then none else valI C (some z.toNat)
theorem valN_hI (C : List SpV) (j : Int) : valN C (hI C 0 j) = valC C j := by
  unfold valN valC hI
  cases e : lastI C j with
  | none => simp [valI]
  | some r => simp
/-! ### cuts -/
structure CutsOf (C : List SpV) (K : List Int) : Prop where
  asc : K.Pairwise (· < ·)
  mem : ∀ x, x ∈ K ↔ ∃ c ∈ C, x = c.fr ∨ x = c.to
theorem asc_get {K : List Int} (h : K.Pairwise (· < ·)) {a b : Nat} {x y : Int} (ha : K[a]? = some x) (hb : K[b]? = some y) (hab : a < b) : x < y := by
  obtain ⟨h1, rfl⟩ := List.getElem?_eq_some_iff.1 ha
  obtain ⟨h2, rfl⟩ := List.getElem?_eq_some_iff.1 hb
  exact List.pairwise_iff_getElem.1 h a b h1 h2 hab
theorem asc_lt {K : List Int} (h : K.Pairwise (· < ·)) {a b : Nat} {x y : Int} (ha : K[a]? = some x) (hb : K[b]? = some y) : x < y ↔ a < b := by
  rcases Nat.lt_trichotomy a b with q | q | q
  · exact ⟨fun _ => q, fun _ => asc_get h ha hb q⟩
  · subst q; rw [ha] at hb; cases hb; omega
  · have := asc_get h hb ha q; omega
section
variable {C : List SpV} {K : List Int} (k : CutsOf C K)
include k
theorem CutsOf.piece {a : Nat} {x y : Int} (ha : K[a]? = some x) (hb : K[a + 1]? = some y) {j : Int} (h1 : x ≤ j) (h2 : j < y) : ∀ c ∈ C, inC j c = inC x c := fun c hc => by
  obtain ⟨p, hp⟩ := List.mem_iff_getElem?.1 ((k.mem c.fr).2 ⟨c, hc, .inl rfl⟩)
  obtain ⟨q, hq⟩ := List.mem_iff_getElem?.1 ((k.mem c.to).2 ⟨c, hc, .inr rfl⟩)
  have e1 := asc_lt k.asc ha hp
  have e2 := asc_lt k.asc hp hb
  have e3 := asc_lt k.asc ha hq
  have e4 := asc_lt k.asc hq hb
  unfold inC
  rw [Bool.eq_iff_iff]
  simp only [decide_eq_true_eq]
  constructor
  · rintro ⟨g1, g2⟩
    have : p < a + 1 := e2.1 (by omega)
    have : ¬ x < c.fr := fun g => by have := e1.1 g; omega
    exact ⟨by omega, by omega⟩
  · rintro ⟨g1, g2⟩
    have := e3.1 g2
    have : ¬ c.to < y := fun g => by have := e4.1 g; omega
    exact ⟨by omega, by omega⟩
theorem CutsOf.val {a : Nat} {x y : Int} (ha : K[a]? = some x) (hb : K[a + 1]? = some y) {j : Int} (h1 : x ≤ j) (h2 : j < y) : valC C j = valC C x := by
  unfold valC
  rw [lastI_congr (k.piece ha hb h1 h2)]
theorem CutsOf.inp {c : SpV} (hc : c ∈ C) {p q a : Nat} {x : Int} (hp : K[p]? = some c.fr) (hq : K[q]? = some c.to) (ha : K[a]? = some x) : inC x c = true ↔ p ≤ a ∧ a < q := by
  unfold inC
  have e1 := asc_lt k.asc ha hp
  have e2 := asc_lt k.asc ha hq
  simp only [decide_eq_true_eq]
  constructor
  · rintro ⟨g1, g2⟩
    exact ⟨by rcases Nat.lt_or_ge a p with g | g; · have := e1.2 g; omega
              · exact g, e2.1 g2⟩
  · rintro ⟨g1, g2⟩
    refine ⟨?_, e2.2 g2⟩
    have : ¬ x < c.fr := fun g => by have := e1.1 g; omega
    omega
theorem CutsOf.first {x : Int} (h0 : K[0]? = some x) {j : Int} (hj : j < x) : valC C j = none := by
  have : lastI C j = none := lastI_none.2 fun c hc => by
    obtain ⟨p, hp⟩ := List.mem_iff_getElem?.1 ((k.mem c.fr).2 ⟨c, hc, .inl rfl⟩)
    have e := asc_lt k.asc hp h0
    unfold inC
    rw [decide_eq_false_iff_not]
    rintro ⟨g, _⟩
    have := e.1 (by omega)
    omega
  unfold valC
  rw [this]; rfl
theorem CutsOf.last {x : Int} {m : Nat} (hm : K.length = m + 1) (h0 : K[m]? = some x) {j : Int} (hj : x ≤ j) : valC C j = none := by
  have : lastI C j = none := lastI_none.2 fun c hc => by
    obtain ⟨p, hp⟩ := List.mem_iff_getElem?.1 ((k.mem c.to).2 ⟨c, hc, .inr rfl⟩)
    have e := asc_lt k.asc h0 hp
    have := (List.getElem?_eq_some_iff.1 hp).1
    unfold inC
    rw [decide_eq_false_iff_not]
    rintro ⟨_, g⟩
    have := e.1 (by omega)
    omega
  unfold valC
  rw [this]; rfl
theorem CutsOf.runs0 (nm : ByteArray) {x : Int} (h0 : K[0]? = some x) : RunsTo (valC C) nm x [] :=
  ⟨by simp, by simp, by simp, fun l1 l2 p e => by simp at e, fun j v hj hv => by rw [k.first h0 hj] at hv; cases hv⟩
def rnext (C : List SpV) (nm : ByteArray) (x y : Int) (z : Int) (l : List SpV) : List SpV := match valN C z with
  | some v => rstep l ⟨x, y, nm, v⟩
  | none => l
theorem CutsOf.next {nm : ByteArray} {l : List SpV} {a : Nat} {x y : Int} (ha : K[a]? = some x) (hb : K[a + 1]? = some y) (r : RunsTo (valC C) nm x l) : RunsTo (valC C) nm y (rnext C nm x y (hI C 0 x) l) := by
  have hxy := asc_get k.asc ha hb (by omega)
  unfold rnext
  rw [valN_hI]
  cases e : valC C x with
  | none => exact r.skip hxy (fun j h1 h2 => by rw [k.val ha hb h1 h2, e])
  | some v => exact r.step hxy (fun j h1 h2 => by rw [k.val ha hb h1 h2, e])
end
/-! ### the pieces that are open still -/
structure NX (H : List Int) (X : List Nat) : Prop where
  len : X.length = H.length + 1
  le : ∀ (a x : Nat), X[a]? = some x → a ≤ x ∧ x ≤ H.length
  cl : ∀ (a x b : Nat), X[a]? = some x → a ≤ b → b < x → H[b]? ≠ some (-1)
  fix : ∀ (a x : Nat), X[a]? = some x → (x = a ↔ a = H.length ∨ H[a]? = some (-1))
theorem NX.half {H : List Int} {X : List Nat} (n : NX H X) {a x y : Nat} (ha : X[a]? = some x) (hx : X[x]? = some y) (hne : x ≠ a) : NX H (X.set a y) := by
  have l1 := n.le a x ha
  have l2 := n.le x y hx
  have al := (List.getElem?_eq_some_iff.1 ha).1
  have get : ∀ b z, (X.set a y)[b]? = some z → (b = a ∧ z = y) ∨ (b ≠ a ∧ X[b]? = some z) := fun b z h => by
    by_cases e : b = a
    · subst e
      rw [List.getElem?_set_self al] at h
      exact .inl ⟨rfl, (Option.some.inj h).symm⟩
    · rw [List.getElem?_set_ne (Ne.symm e)] at h
      exact .inr ⟨e, h⟩
  refine ⟨by simp [n.len], fun b z h => ?_, fun b z c h h1 h2 => ?_, fun b z h => ?_⟩
  · rcases get b z h with ⟨rfl, rfl⟩ | ⟨_, g⟩
    · exact ⟨by omega, l2.2⟩
    · exact n.le b z g
  · rcases get b z h with ⟨rfl, rfl⟩ | ⟨_, g⟩
    · by_cases q : c < x
      · exact n.cl _ x c ha h1 q
      · exact n.cl x _ c hx (by omega) h2
    · exact n.cl b z c g h1 h2
  · rcases get b z h with ⟨rfl, rfl⟩ | ⟨_, g⟩
    · have := n.fix _ x ha
      constructor
      · intro e; omega
      · intro e; exact absurd (this.2 e) hne
    · exact n.fix b z g
theorem NX.take {H : List Int} {X : List Nat} (n : NX H X) {a : Nat} (ha : X[a]? = some a) (hl : a < H.length) {i : Int} (hi : i ≠ -1) : NX (H.set a i) (X.set a (a + 1)) := by
  have al := (List.getElem?_eq_some_iff.1 ha).1
  have get : ∀ b z, (X.set a (a + 1))[b]? = some z → (b = a ∧ z = a + 1) ∨ (b ≠ a ∧ X[b]? = some z) := fun b z h => by
    by_cases e : b = a
    · subst e
      rw [List.getElem?_set_self al] at h
      exact .inl ⟨rfl, (Option.some.inj h).symm⟩
    · rw [List.getElem?_set_ne (Ne.symm e)] at h
      exact .inr ⟨e, h⟩
  have gh : ∀ b, (H.set a i)[b]? = some (-1) → b ≠ a ∧ H[b]? = some (-1) := fun b h => by
    by_cases e : b = a
    · subst e
      rw [List.getElem?_set_self hl] at h
      exact absurd (Option.some.inj h) hi
    · rw [List.getElem?_set_ne (Ne.symm e)] at h
      exact ⟨e, h⟩
  refine ⟨by simp [n.len], fun b z h => ?_, fun b z c h h1 h2 => ?_, fun b z h => ?_⟩
  · rw [List.length_set]
    rcases get b z h with ⟨rfl, rfl⟩ | ⟨_, g⟩
    · exact ⟨by omega, by omega⟩
    · exact n.le b z g
  · intro q
    obtain ⟨g1, g2⟩ := gh c q
    rcases get b z h with ⟨rfl, rfl⟩ | ⟨_, g⟩
    · omega
    · exact n.cl b z c g h1 h2 g2
  · rw [List.length_set]
    rcases get b z h with ⟨rfl, rfl⟩ | ⟨e, g⟩
    · constructor
      · intro e; omega
      · rintro (e | e)
        · omega
        · exact absurd rfl (gh _ e).1
    · rw [n.fix b z g]
      constructor
      · rintro (e | q)
        · exact .inl e
        · exact .inr (by rw [List.getElem?_set_ne (Ne.symm e)]; exact q)
      · rintro (e | q)
        · exact .inl e
        · exact .inr (gh b q).2
theorem nx_start (m : Nat) : NX (List.replicate m (-1)) (List.range (m + 1)) := by
  have get : ∀ a x, (List.range (m + 1))[a]? = some x → x = a ∧ a ≤ m := fun a x h => by
    obtain ⟨h1, h2⟩ := List.getElem?_eq_some_iff.1 h
    simp at h1 h2
    exact ⟨h2.symm, by omega⟩
  refine ⟨by simp, fun a x h => ?_, fun a x b h h1 h2 => ?_, fun a x h => ?_⟩
  · obtain ⟨rfl, h2⟩ := get a x h; simp; omega
  · obtain ⟨rfl, h3⟩ := get a x h; omega
  · obtain ⟨rfl, h3⟩ := get a x h
    simp only [List.length_replicate, true_iff]
    by_cases e : x = m
    · exact .inl e
    · exact .inr (by rw [List.getElem?_replicate, if_pos (by omega)])
structure FI (C : List SpV) (K : List Int) (i : Nat) (p e a : Nat) (H : List Int) : Prop where
  len : H.length + 1 = K.length
  get : ∀ (b : Nat) (h x : Int), H[b]? = some h → K[b]? = some x → h = hI C (i + 1) x ∨ (h = (i : Int) ∧ hI C (i + 1) x = -1 ∧ p ≤ b ∧ b < e)
  cl : ∀ (b : Nat), p ≤ b → b < a → b < e → H[b]? ≠ some (-1)
structure FD (C : List SpV) (K : List Int) (i : Nat) (H : List Int) : Prop where
  len : H.length + 1 = K.length
  get : ∀ (b : Nat) (h x : Int), H[b]? = some h → K[b]? = some x → h = hI C i x
theorem FD.start {C : List SpV} {K : List Int} {i : Nat} {H : List Int} (f : FD C K (i + 1) H) (p e : Nat) : FI C K i p e p H :=
  ⟨f.len, fun b h x h1 h2 => .inl (f.get b h x h1 h2), fun b h1 h2 => by omega⟩
theorem FD.zero {C : List SpV} {K : List Int} {m : Nat} (hm : m + 1 = K.length) : FD C K C.length (List.replicate m (-1)) :=
  ⟨by simp [hm], fun b h x h1 h2 => by
    rw [hI_len]
    rw [List.getElem?_replicate] at h1
    split at h1
    · exact (Option.some.inj h1).symm
    · cases h1⟩
section
variable {C : List SpV} {K : List Int} {i p e a : Nat} {H : List Int} {c : SpV}
theorem FI.more (f : FI C K i p e a H) {r : Nat} (hr : ∀ b, a ≤ b → b < r → H[b]? ≠ some (-1)) : FI C K i p e r H :=
  ⟨f.len, f.get, fun b h1 h2 h3 => by
    by_cases q : b < a
    · exact f.cl b h1 q h3
    · exact hr b (by omega) h2⟩
theorem FI.take (f : FI C K i p e a H) (k : CutsOf C K) (ho : H[a]? = some (-1)) (hp : p ≤ a) (he : a < e) : FI C K i p e (a + 1) (H.set a (i : Int)) := by
  have al := (List.getElem?_eq_some_iff.1 ho).1
  refine ⟨by simp [f.len], fun b h x h1 h2 => ?_, fun b h1 h2 h3 => ?_⟩
  · by_cases q : b = a
    · subst q
      rw [List.getElem?_set_self al] at h1
      cases h1
      rcases f.get b (-1) x ho h2 with g | ⟨g, _⟩
      · exact .inr ⟨rfl, g.symm, hp, he⟩
      · omega
    · rw [List.getElem?_set_ne (Ne.symm q)] at h1
      exact f.get b h x h1 h2
  · by_cases q : b = a
    · subst q
      rw [List.getElem?_set_self al]
      intro g; have := Option.some.inj g; omega
    · rw [List.getElem?_set_ne (Ne.symm q)]
      exact f.cl b h1 (by omega) h3
theorem FI.done (f : FI C K i p e a H) (k : CutsOf C K) (hc : C[i]? = some c) (hp : K[p]? = some c.fr) (hq : K[e]? = some c.to) (ha : e ≤ a) : FD C K i H := by
  refine ⟨f.len, fun b h x h1 h2 => ?_⟩
  rw [hI_step hc]
  have ip := k.inp (List.mem_of_getElem? hc) hp hq h2
  rcases f.get b h x h1 h2 with g | ⟨g1, g2, g3, g4⟩
  · by_cases z : hI C (i + 1) x = -1
    · rw [if_pos z]
      rw [z] at g
      subst g
      rw [if_neg]
      intro y
      obtain ⟨y1, y2⟩ := ip.1 y
      exact f.cl b y1 (by omega) y2 h1
    · rw [if_neg z]; exact g
  · rw [if_pos g2, if_pos (ip.2 ⟨g3, g4⟩)]; exact g1
theorem FI.full (f : FI C K i p e a H) (k : CutsOf C K) (hc : C[i]? = some c) (hp : K[p]? = some c.fr) (hq : K[e]? = some c.to) (hz : H.countP (fun z => decide (z = -1)) = 0) : FD C K 0 H := by
  refine ⟨f.len, fun b h x h1 h2 => ?_⟩
  have ip := k.inp (List.mem_of_getElem? hc) hp hq h2
  have hne : h ≠ -1 := fun q => by
    rw [List.countP_eq_zero] at hz
    exact hz h (List.mem_of_getElem? h1) (by simp [q])
  rcases f.get b h x h1 h2 with g | ⟨g1, g2, g3, g4⟩
  · rw [hI_done (i := i + 1) (by rw [← g]; exact hne)]; exact g
  · have : hI C i x = (i : Int) := by rw [hI_step hc, if_pos g2, if_pos (ip.2 ⟨g3, g4⟩)]
    rw [hI_done (i := i) (by rw [this]; omega), this]; exact g1
end
theorem count_set : ∀ {H : List Int} {a : Nat} {i : Int}, H[a]? = some (-1) → i ≠ -1 → H.countP (fun z => decide (z = -1)) = (H.set a i).countP (fun z => decide (z = -1)) + 1
  | [], a, i, h, _ => by simp at h
  | x :: H, 0, i, h, hi => by
    simp only [List.getElem?_cons_zero, Option.some.injEq] at h
    subst h
    simp [List.countP_cons, hi]
  | x :: H, a + 1, i, h, hi => by
    have := count_set (H := H) (a := a) (i := i) (by simpa using h) hi
    simp only [List.set_cons_succ, List.countP_cons, this]
    omega
/-! ### a sorted row, each number once -/
theorem get_bang {d : List Int} {i : Nat} (h : i < d.length) : d.toArray[i]! = d[i] := by simp [h]
theorem compact_asc {d : List Int} (h : d.Pairwise (· ≤ ·)) : (Lib.compact d).Pairwise (· < ·) := by
  unfold Lib.compact Lib.compactUpTo
  rw [List.pairwise_map]
  have h0 : ((List.range d.length).filter (Lib.keeps d.toArray)).Pairwise (· < ·) := (List.pairwise_lt_range (n := d.length)).filter _
  refine h0.imp_of_mem (fun {a b} ha hb hab => ?_)
  rw [List.mem_filter, List.mem_range] at ha hb
  have e1 := get_bang ha.1
  have e2 := get_bang hb.1
  have e3 : d.toArray[b - 1]! = d[b - 1] := get_bang (by omega)
  have hk := hb.2
  unfold Lib.keeps at hk
  rw [decide_eq_true_eq] at hk
  rcases hk with q | q
  · omega
  · rw [e2, e3] at q
    rw [e1, e2]
    have g := List.pairwise_iff_getElem.1 h
    have g1 := g (b - 1) b (by omega) hb.1 (by omega)
    by_cases x : a = b - 1
    · subst x; omega
    · have := g a (b - 1) ha.1 (by omega) (by omega); omega
theorem compact_mem {d : List Int} (x : Int) : x ∈ Lib.compact d ↔ x ∈ d := by
  unfold Lib.compact Lib.compactUpTo
  rw [List.mem_map]
  constructor
  · rintro ⟨j, hj, rfl⟩
    rw [List.mem_filter, List.mem_range] at hj
    rw [get_bang hj.1]
    exact List.getElem_mem hj.1
  · intro hx
    obtain ⟨j, hj, rfl⟩ := List.mem_iff_getElem.1 hx
    clear hx
    induction j with
    | zero => exact ⟨0, by rw [List.mem_filter, List.mem_range]; exact ⟨hj, by simp [Lib.keeps]⟩, get_bang hj⟩
    | succ j ih =>
      by_cases q : d[j + 1] = d[j]
      · obtain ⟨k, hk, e⟩ := ih (by omega)
        exact ⟨k, hk, by rw [e, q]⟩
      · refine ⟨j + 1, ?_, get_bang hj⟩
        rw [List.mem_filter, List.mem_range]
        refine ⟨hj, ?_⟩
        unfold Lib.keeps
        rw [decide_eq_true_eq]
        refine .inr ?_
        rw [get_bang hj, show j + 1 - 1 = j by omega, get_bang (by omega)]
        exact q
theorem compact_le (d : List Int) : (Lib.compact d).length ≤ d.length := by
  unfold Lib.compact Lib.compactUpTo
  rw [List.length_map]
  have := List.length_filter_le (Lib.keeps d.toArray) (List.range d.length)
  simpa using this
theorem asc_count {K : List Int} (h : K.Pairwise (· < ·)) {p : Nat} {x : Int} (hp : K[p]? = some x) : K.countP (fun y => decide (y < x)) = p := by
  induction K generalizing p with
  | nil => simp at hp
  | cons y K ih =>
    have a := List.pairwise_cons.1 h
    cases p with
    | zero =>
      simp only [List.getElem?_cons_zero, Option.some.injEq] at hp
      subst hp
      rw [List.countP_cons]
      have : K.countP (fun z => decide (z < y)) = 0 := List.countP_eq_zero.2 fun z hz => by have := a.1 z hz; simp; omega
      rw [this]
      simp
    | succ p =>
      have hx : K[p]? = some x := by simpa using hp
      have := a.1 x (List.mem_of_getElem? hx)
      rw [List.countP_cons, ih a.2 hx, if_pos (by simpa using this)]
def endsL (C : List SpV) : List Int := C.flatMap fun c => [c.fr, c.to]
def srtZ (l : List Int) : List Int := l.mergeSort fun x y => decide (x ≤ y)
theorem srtZ_asc (l : List Int) : (srtZ l).Pairwise (· ≤ ·) := by
  have := List.pairwise_mergeSort (le := fun x y : Int => decide (x ≤ y)) (fun a b c h1 h2 => by simp at *; omega) (fun a b => by simp; omega) l
  unfold srtZ
  simpa using this
theorem srtZ_mem (l : List Int) (x : Int) : x ∈ srtZ l ↔ x ∈ l := by unfold srtZ; exact List.mem_mergeSort
theorem srtZ_len (l : List Int) : (srtZ l).length = l.length := by unfold srtZ; exact List.length_mergeSort l
def cutsL (C : List SpV) : List Int := Lib.compact (srtZ (endsL C))
theorem cuts_of (C : List SpV) : CutsOf C (cutsL C) := ⟨compact_asc (srtZ_asc _), fun x => by
  unfold cutsL
  rw [compact_mem, srtZ_mem]
  unfold endsL
  simp only [List.mem_flatMap, List.mem_cons, List.not_mem_nil, or_false]⟩
theorem endsL_len (C : List SpV) : (endsL C).length = 2 * C.length := by
  unfold endsL
  induction C with
  | nil => rfl
  | cons c C ih => simp only [List.flatMap_cons, List.length_append, List.length_cons, List.length_nil, ih]; omega
theorem cuts_len (C : List SpV) : (cutsL C).length ≤ 2 * C.length := by
  unfold cutsL
  have := compact_le (srtZ (endsL C))
  rw [srtZ_len, endsL_len] at this
  exact this
theorem cuts_two {C : List SpV} {c : SpV} (hc : c ∈ C) (h : c.fr < c.to) : 2 ≤ (cutsL C).length := by
  obtain ⟨p, hp⟩ := List.mem_iff_getElem?.1 (((cuts_of C).mem c.fr).2 ⟨c, hc, .inl rfl⟩)
  obtain ⟨q, hq⟩ := List.mem_iff_getElem?.1 (((cuts_of C).mem c.to).2 ⟨c, hc, .inr rfl⟩)
  have := (asc_lt (cuts_of C).asc hp hq).1 h
  have := (List.getElem?_eq_some_iff.1 hq).1
  omega
end Go.Proofs.YtifendlpeebofaaGreatDoor
namespace Go.Proofs.YtifendlpeebofaaGreatDoor
open Go.RowKit Go.Shelf Go.Sort
abbrev iz (x : Int) : Value := .int .i64 x
def OwnZ (w : World) (base : Nat) (v : Value) (L : List Int) : Prop := OwnV w base 3 v (L.map iz)
theorem infoZ : (Tryz.prog.info? 3).map (fun i => (i.zero, i.size, i.bytes)) = some (some (.int .i64 0), 1, 8) := by kernel_rfl
theorem undZ : Tryz.prog.underlying 150 = some (.slice 3) := Tryz.underlying150
section
variable {w w' : World} {base : Nat} {v : Value} {L : List Int}
theorem OwnZ.keep (h : OwnZ w base v L) (hk : ∀ k, v.ownBlock = some k → w'.heap[k]? = w.heap[k]?) : OwnZ w' base v L := OwnV.keep h hk
theorem OwnZ.below (h : OwnZ w base v L) (hb : Below w.heap.size w w') : OwnZ w' base v L := OwnV.below h hb
theorem OwnZ.ge (h : OwnZ w base v L) : ∀ j, v.ownBlock = some j → base ≤ j ∧ ∃ c, w.heap[j]? = some (.cells c 3 (0, 0)) := OwnV.ge h
theorem OwnZ.lt (h : OwnZ w base v L) {k : Nat} (hk : v.ownBlock = some k) : k < w.heap.size := OwnV.lt h hk
theorem OwnZ.mono {b2 : Nat} (h : OwnZ w base v L) (hb : b2 ≤ base) : OwnZ w b2 v L := by
  refine ⟨h.1, ?_⟩
  rcases h.2 with hn | ⟨g, cap, cur, rfl, hbg, rest⟩
  · exact .inl hn
  · exact .inr ⟨g, cap, cur, rfl, Nat.le_trans hb hbg, rest⟩
theorem oz_nil (w : World) (base : Nat) : OwnZ w base (.slice none 0 0) [] := ⟨by simp, .inl ⟨rfl, rfl⟩⟩
theorem OwnZ.form (h : OwnZ w base v L) : ∃ a cap, v = .slice a L.length cap ∧ L.length ≤ cap := by
  obtain ⟨a, cap, e, hc, _⟩ := OwnV.open h
  rw [List.length_map] at e hc
  exact ⟨a, cap, e, hc⟩
theorem OwnZ.at (h : OwnZ w base v L) (hne : L ≠ []) : ∃ g cap, v = .slice (some ⟨g, 0, none⟩) L.length cap ∧ base ≤ g ∧ g < w.heap.size ∧ (∀ i x, L[i]? = some x → w.cell? ⟨g, i, none⟩ = some (iz x)) ∧ v.ownBlock = some g := by
  rcases h.2 with ⟨_, hn⟩ | ⟨g, cap, cur, rfl, hbg, hg, hnc, hcm, hcs, ht⟩
  · rw [List.length_map] at hn
    exact absurd (List.eq_nil_of_length_eq_zero hn) hne
  · refine ⟨g, cap, by rw [List.length_map], hbg, (Array.getElem?_eq_some_iff.1 hg).1, fun i x hx => ?_, rfl⟩
    rw [cell_of_row w g i cur 3 (0, 0) hg]
    have hj : (L.map iz)[i]? = some (iz x) := by rw [List.getElem?_map, hx]; rfl
    rw [← ht, List.getElem?_take] at hj
    split at hj
    · simpa using hj
    · cases hj
theorem OwnZ.set (h : OwnZ w base v L) {i : Nat} (hi : i < L.length) (x : Int) : ∃ g cap, v = .slice (some ⟨g, 0, none⟩) L.length cap ∧ g < w.heap.size ∧ (Instr.storeAt 3 (.pointer (some ⟨g, i, none⟩)) (iz x)).run Tryz.prog w = .ok () (w.setCell ⟨g, i, none⟩ (iz x)) ∧ OwnZ (w.setCell ⟨g, i, none⟩ (iz x)) base v (L.set i x) ∧ Tch (fun j => v.ownBlock = some j) w (w.setCell ⟨g, i, none⟩ (iz x)) := by
  rcases h.2 with ⟨_, hn⟩ | ⟨g, cap, cur, rfl, hbg, hg, hnc, hcm, hcs, ht⟩
  · rw [List.length_map] at hn; omega
  · rw [List.length_map] at hnc ht
    have hic : i < cur.size := by omega
    obtain ⟨y, hy⟩ : ∃ y, cur[i]? = some y := ⟨_, Array.getElem?_eq_getElem hic⟩
    have hc : w.cell? ⟨g, i, none⟩ = some (iz L[i]) := by
      have hj : (L.map iz)[i]? = some (iz L[i]) := by rw [List.getElem?_map, List.getElem?_eq_getElem hi]; rfl
      rw [← ht, List.getElem?_take] at hj
      rw [cell_of_row w g i cur 3 (0, 0) hg]
      split at hj
      · simpa using hj
      · cases hj
    have hf := frozen_of_row w g i _ _ hg
    have hh := Go.heap_setCell_same w g i _ _ (iz x) hg
    have ho : ∀ j, j ≠ g → (w.setCell ⟨g, i, none⟩ (iz x)).heap[j]? = w.heap[j]? := fun j hj => Below.heap_setCell _ _ _ _ hj
    refine ⟨g, cap, by rw [List.length_map], (Array.getElem?_eq_some_iff.1 hg).1, by go_simp, ⟨by simp, .inr ⟨g, cap, _, by simp, hbg, hh, by simp; omega, hcm, by simpa using hcs, ?_⟩⟩, ⟨rfl, rfl, rfl, by simp [World.setCell], fun j hj hn => ho j (fun e => hn (by rw [e]; rfl))⟩⟩
    rw [List.length_map, List.length_set, List.map_set]
    rw [Array.toList_setIfInBounds, List.take_set, ht]
theorem run_bsZ1 (x : Int) (w : World) : (Instr.buildSlice 150 1 #[(0, .int .i64 x)]).run Tryz.prog w = .ok (.slice (some ⟨w.heap.size, 0, none⟩) 1 1) (w.alloc (.cells #[.int .i64 x] 3)) := by
  obtain ⟨ie, hi, hz0, hs, hby⟩ := info_parts infoZ
  refine run_buildSlice w 150 3 1 _ #[.int .i64 x] ie _ undZ hi hz0 (by rw [hs]; decide) (by rw [hs]; decide) ?_
  rw [hs]
  have := Go.Great.fill_whole (s := 1) (by decide) [.int .i64 x] ((Array.range (1 * 1)).map ((Value.int .i64 0).cells[· % (Value.int .i64 0).cells.size]!)) (by intro u hu; simp at hu; subst hu; rfl) (by simp)
  simpa [Value.cells] using this
theorem run_bsZ2 (x y : Int) (w : World) : (Instr.buildSlice 150 2 #[(0, .int .i64 x), (1, .int .i64 y)]).run Tryz.prog w = .ok (.slice (some ⟨w.heap.size, 0, none⟩) 2 2) (w.alloc (.cells #[.int .i64 x, .int .i64 y] 3)) := by
  obtain ⟨ie, hi, hz0, hs, hby⟩ := info_parts infoZ
  refine run_buildSlice w 150 3 2 _ #[.int .i64 x, .int .i64 y] ie _ undZ hi hz0 (by rw [hs]; decide) (by rw [hs]; decide) ?_
  rw [hs]
  have := Go.Great.fill_whole (s := 1) (by decide) [.int .i64 x, .int .i64 y] ((Array.range (2 * 1)).map ((Value.int .i64 0).cells[· % (Value.int .i64 0).cells.size]!)) (by intro u hu; simp at hu; rcases hu with rfl | rfl <;> rfl) (by simp)
  simpa [Value.cells] using this
theorem valsZ_new (w : World) (M : List Int) : Vals (w.alloc (.cells (M.map iz).toArray 3)) (some ⟨w.heap.size, 0, none⟩) (M.map iz) :=
  .inr ⟨_, _, rfl, fun j u hj => by
    rw [Nat.zero_add, cell_of_row _ _ _ _ _ _ (heap_alloc_new _ _)]
    simpa using hj⟩
theorem OwnZ.app (h : OwnZ w base v L) (hb : base ≤ w.heap.size) (M : List Int) {bs : Sem Value} (hbs : bs.run Tryz.prog w = .ok (.slice (some ⟨w.heap.size, 0, none⟩) M.length M.length) (w.alloc (.cells (M.map iz).toArray 3))) (hn : L.length + M.length ≤ 2000000000000) :
    ∃ sv w1 v2 w2, bs.run Tryz.prog w = .ok sv w1 ∧ Below w.heap.size w w1 ∧ (Builtin.append_ #[150, 150] 150 #[v, sv]).run Tryz.prog w1 = .ok v2 w2 ∧ OwnZ w2 base v2 (L ++ M) ∧ Tch (fun j => v.ownBlock = some j) w w2 ∧ (v2.ownBlock = v.ownBlock ∨ ∀ j, v2.ownBlock = some j → w.heap.size ≤ j) := by
  have b1 : Below w.heap.size w (w.alloc (.cells (M.map iz).toArray 3)) := (Below.refl _ _).alloc (Nat.le_refl _) _
  have v1 := valsZ_new w M
  generalize w.alloc (.cells (M.map iz).toArray 3) = w1 at *
  obtain ⟨v2, w2, e2, o2, g2, q2⟩ := run_appV 150 3 8 (.int .i64 0) undZ infoZ (.inl rfl) rfl w1 base 150 v (L.map iz) _ (M.map iz) M.length (OwnV.below h b1) v1 (fun u hu => by obtain ⟨x, _, rfl⟩ := List.mem_map.1 hu; rfl) (by simpa using hn) (Nat.le_trans hb b1.size)
  rw [List.length_map] at e2
  have t2 : Tch (fun j => v.ownBlock = some j) w1 w2 := ⟨g2.os, g2.tape, g2.output, g2.size, fun j hj hn => g2.block j hj (fun e => hn e.symm)⟩
  refine ⟨_, w1, v2, w2, hbs, b1, e2, ?_, (tch_below b1 _).trans t2, q2.imp id (fun q j hj => by rw [q] at hj; injection hj with hj; have := b1.size; omega)⟩
  unfold OwnZ
  rw [List.map_append]
  exact o2
/-! ### the library -/
theorem OwnZ.holds (h : OwnZ w base v L) (hne : L ≠ []) : ∃ g cap, v = .slice (some ⟨g, 0, none⟩) L.length cap ∧ base ≤ g ∧ g < w.heap.size ∧ L.length ≤ cap ∧ cap ≤ maxLen ∧ Holds iz w g 0 L.toArray ∧ ∃ cur, w.heap[g]? = some (.cells cur 3 (0, 0)) ∧ cur.size = cap * 1 := by
  have h' : w.ownsRow base 3 1 v L.length (L.map iz) := by have := h; unfold OwnZ OwnV at this; rw [List.length_map] at this; exact this
  have hv : v ≠ .slice none 0 0 := fun e => by
    rcases h'.2 with ⟨_, hn⟩ | ⟨g, cap, cur, e2, _⟩
    · exact hne (List.eq_nil_of_length_eq_zero hn)
    · rw [e] at e2; cases e2
  obtain ⟨g, cap, e, hb, hlt, hn, hm, _, hH⟩ := Lib.holds_of_ownsRow h' hv
  refine ⟨g, cap, e, hb, hlt, hn, hm, hH, ?_⟩
  rcases h'.2 with ⟨e0, _⟩ | ⟨g', cap', cur, e2, _, hg, _, _, hs, _⟩
  · exact absurd e0 hv
  · rw [e] at e2; cases e2
    exact ⟨cur, hg, hs⟩
theorem OwnZ.sort (h : OwnZ w base v L) (hne : L ≠ []) (hn : L.length ≤ 2000000000000) : Calls Tryz.prog 108 #[v] w fun e w' => e = .returned (.tuple #[]) ∧ OwnZ w' base v (srtZ L) ∧ Tch (fun j => v.ownBlock = some j) w w' := by
  obtain ⟨g, cap, rfl, hb, hlt, hnc, hcm, hH, cur, hg, hs⟩ := h.holds hne
  have c := Any.slices_Sort_int sortZ g 0 cap L w hH hlt (by omega)
  change Calls Tryz.prog 108 _ _ _ at c
  refine c.mono ?_
  rintro e w' ⟨he, n, os, rfl⟩
  refine ⟨he, ?_, ?_⟩
  · have := ownsRow_sortedI (ts := srtZ L) (ss := L) (os := os) (n := n) (srtZ_len L) hb hg hnc hcm hs
    unfold OwnZ OwnV
    rw [List.length_map, srtZ_len]
    exact this
  · have gb := grownBy_sortedI (w := w) (g := g) (n := n) (os := os) (srtZ L).toArray
    exact ⟨gb.os, gb.tape, gb.output, gb.size, fun j hj hn => gb.block j hj (fun e => hn (by cases e; rfl))⟩
theorem OwnZ.compact (h : OwnZ w base v L) (hne : L ≠ []) (hn : L.length ≤ 2000000000000) : Calls Tryz.prog 109 #[v] w fun e w' => ∃ v', e = .returned v' ∧ OwnZ w' base v' (Lib.compact L) ∧ v'.ownBlock = v.ownBlock ∧ Tch (fun j => v.ownBlock = some j) w w' := by
  obtain ⟨g, cap, rfl, hb, hlt, hnc, hcm, hH, cur, hg, hs⟩ := h.holds hne
  have c := Any.slices_Compact_int compactZ g 0 cap L w hH (by omega) hnc
  change Calls Tryz.prog 109 _ _ _ at c
  refine c.mono ?_
  rintro e w' ⟨he, q, rfl⟩
  have h' : w.ownsRow base 3 1 (.slice (some ⟨g, 0, none⟩) L.length cap) L.length (L.map iz) := by have := h; unfold OwnZ OwnV at this; rw [List.length_map] at this; exact this
  have hl := compact_le L
  have o := Lib.ownsRow_putRow (q := q) (k := (Lib.compact L).length) (ys := Lib.compact L ++ List.replicate (L.length - (Lib.compact L).length) 0) h' (by simp; omega) hl
  rw [List.take_left] at o
  refine ⟨_, he, ?_, rfl, ?_⟩
  · unfold OwnZ OwnV
    rw [List.length_map]
    exact o
  · have gb := grownBy_sortedI (w := w) (g := g) (n := q) (os := #[]) (Lib.compact L ++ List.replicate (L.length - (Lib.compact L).length) 0).toArray
    have e0 : ∀ W : World, grow W #[] = W := fun W => by simp [grow]
    rw [e0] at gb
    exact ⟨gb.os, gb.tape, gb.output, gb.size, fun j hj hn => gb.block j hj (fun e => hn (by cases e; rfl))⟩
theorem OwnZ.search (h : OwnZ w base v L) (hs : L.Pairwise (· < ·)) (hn : L.length ≤ 2000000000000) {p : Nat} {x : Int} (hp : L[p]? = some x) : Calls Tryz.prog 112 #[v, iz x] w fun e w' => ∃ b, e = .returned (.tuple #[.int .i64 (p : Int), .bool b]) ∧ ∃ q, w' = w.drewN q := by
  have hne : L ≠ [] := fun e => by rw [e] at hp; simp at hp
  obtain ⟨g, cap, rfl, hb, hlt, hc, _⟩ := h.at hne
  have c := Any.slices_BinarySearch_int searchZ g 0 L.length cap L x w (Nat.le_refl _) (by omega) (fun j hj => by
    rw [Nat.zero_add, List.getD_eq_getElem?_getD, List.getElem?_eq_getElem hj]
    exact hc j _ (List.getElem?_eq_getElem hj)) (by rw [List.take_length]; exact hs.imp (fun h => by omega))
  change Calls Tryz.prog 112 _ _ _ at c
  refine c.mono ?_
  rintro e w' ⟨he, q⟩
  rw [List.take_length, asc_count hs hp] at he
  exact ⟨_, he, q⟩
end
end Go.Proofs.YtifendlpeebofaaGreatDoor
