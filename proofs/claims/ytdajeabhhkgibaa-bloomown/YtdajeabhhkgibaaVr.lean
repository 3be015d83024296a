import Derived.Test.YtdajeabhhkgibaaVq
namespace Go.Proofs.Ytdajeabhhkgibaa
open Go.RowKit
set_option linter.unusedVariables false
set_option linter.unusedSimpArgs false

theorem bit_setAll {b : Nat} (l : List (Fin b)) (ws : Nat → Nat) (n : Nat) : bitAt (setAll ws l) n = (l.any (fun x => decide (n = x.val)) || bitAt ws n) := by
  induction l generalizing ws with
  | nil => rfl
  | cons x l ih =>
    show bitAt (setAll (setBit ws x.val) l) n = _
    rw [ih, bitAt_set, List.any_cons]
    cases decide (n = x.val) <;> cases l.any (fun x => decide (n = x.val)) <;> cases bitAt ws n <;> rfl
theorem bit_addL (bits : Nat) (hb : 0 < bits) (p : Nat) (L : List (List UInt8)) (ws : Nat → Nat) (n : Nat) : bitAt (addL bits hb p ws L) n = (L.any (fun h => (spotL h bits hb p).any (fun x => decide (n = x.val))) || bitAt ws n) := by
  induction L generalizing ws with
  | nil => rfl
  | cons h L ih =>
    show bitAt (addL bits hb p (setAll ws (spotL h bits hb p)) L) n = _
    rw [ih, bit_setAll, List.any_cons]
    cases (spotL h bits hb p).any (fun x => decide (n = x.val)) <;> cases L.any (fun h => (spotL h bits hb p).any (fun x => decide (n = x.val))) <;> cases bitAt ws n <;> rfl
theorem bit_orW (a b : Nat → Nat) (m n : Nat) (hn : n / 64 < m) : bitAt (orW a b m) n = (bitAt a n || bitAt b n) := by
  unfold bitAt orW
  rw [if_pos hn, Nat.testBit_or]
theorem bit_orW_out (a b : Nat → Nat) (m n : Nat) (hn : ¬ n / 64 < m) : bitAt (orW a b m) n = bitAt a n := by
  unfold bitAt orW
  rw [if_neg hn]
theorem bit_zero (n : Nat) : bitAt (fun _ => 0) n = false := by simp [bitAt]
theorem within_zero (bits : Nat) : Within (fun _ => 0) bits := fun n h => by rw [bit_zero] at h; cases h
theorem within_addL {bits : Nat} (hb : 0 < bits) (p : Nat) {ws : Nat → Nat} (h : Within ws bits) (L : List (List UInt8)) : Within (addL bits hb p ws L) bits := fun n hn => by
  rw [bit_addL, Bool.or_eq_true] at hn
  rcases hn with hn | hn
  · obtain ⟨y, _, hy⟩ := List.any_eq_true.1 hn
    obtain ⟨x, _, hx⟩ := List.any_eq_true.1 hy
    have := of_decide_eq_true hx
    rw [this]
    exact x.isLt
  · exact h n hn
theorem within_orW {bits m : Nat} {a b : Nat → Nat} (ha : Within a bits) (hb : Within b bits) : Within (orW a b m) bits := fun n hn => by
  by_cases h : n / 64 < m
  · rw [bit_orW a b m n h, Bool.or_eq_true] at hn
    rcases hn with hn | hn
    · exact ha n hn
    · exact hb n hn
  · rw [bit_orW_out a b m n h] at hn
    exact ha n hn
theorem addL_app (bits : Nat) (hb : 0 < bits) (p : Nat) (ws : Nat → Nat) (L M : List (List UInt8)) : addL bits hb p (addL bits hb p ws L) M = addL bits hb p ws (L ++ M) := by simp [addL]
/-- What was added it has. -/
theorem all_added {bits : Nat} (hb : 0 < bits) (p : Nat) (ws : Nat → Nat) {L : List (List UInt8)} {h : List UInt8} (hh : h ∈ L) : allBits (addL bits hb p ws L) (spotL h bits hb p) = true := by
  unfold allBits
  rw [List.all_eq_true]
  intro x hx
  rw [bit_addL, Bool.or_eq_true]
  exact .inl (List.any_eq_true.2 ⟨h, hh, List.any_eq_true.2 ⟨x, hx, decide_eq_true rfl⟩⟩)
theorem all_orW {bits : Nat} {a b : Nat → Nat} {l : List (Fin bits)} (h : allBits b l = true) : allBits (orW a b ((bits + 63) / 64)) l = true := by
  unfold allBits at h ⊢
  rw [List.all_eq_true] at h ⊢
  intro x hx
  have := x.isLt
  rw [bit_orW a b _ _ (by omega), h x hx, Bool.or_true]
theorem all_zero {bits : Nat} (hb : 0 < bits) (h : List UInt8) : allBits (fun _ => 0) (spotL h bits hb 7) = false := by
  have e : spotL h bits hb 7 = spotL h bits hb 6 ++ [spotF h bits hb 6] := spotL_succ h bits hb 6
  unfold allBits
  rw [e, List.all_append]
  simp [bit_zero]
/-- Two filters beside one another. -/
structure TwoF (N : Nat) (w W : World) (q1 g1 q2 g2 bits : Nat) (wf wg : Nat → Nat) : Prop where
  f : FW W q1 g1 bits 7 wf
  g : FW W q2 g2 bits 7 wg
  be : Below N w W
  n1 : N ≤ g1
  n2 : N ≤ g2
  d1 : g1 ≠ g2
  d2 : q1 ≠ g2
  d3 : q2 ≠ g1
theorem TwoF.below {N : Nat} {w W W' : World} {q1 g1 q2 g2 bits : Nat} {wf wg : Nat → Nat} (h : TwoF N w W q1 g1 q2 g2 bits wf wg) (hb : Below W.heap.size W W') : TwoF N w W' q1 g1 q2 g2 bits wf wg :=
  ⟨h.f.below hb, h.g.below hb, h.be.trans (hb.mono (by have := h.f.wr.lt; have := h.n1; omega)), h.n1, h.n2, h.d1, h.d2, h.d3⟩
theorem TwoF.addG {N : Nat} {w W W' : World} {q1 g1 q2 g2 bits : Nat} {wf wg wg' : Nat → Nat} (h : TwoF N w W q1 g1 q2 g2 bits wf wg) (hg : FW W' q2 g2 bits 7 wg') (hk : Kb W.heap.size g2 W W') : TwoF N w W' q1 g1 q2 g2 bits wf wg' :=
  ⟨h.f.of (hk.block q1 h.f.fc.lt h.d2) (hk.block g1 h.f.wr.lt h.d1), hg, hk.toBelow h.be (by have := h.f.wr.lt; have := h.n1; omega) h.n2, h.n1, h.n2, h.d1, h.d2, h.d3⟩
theorem TwoF.join {N : Nat} {w W W' : World} {q1 g1 q2 g2 bits : Nat} {wf wg wf' : Nat → Nat} (h : TwoF N w W q1 g1 q2 g2 bits wf wg) (hf : FW W' q1 g1 bits 7 wf') (hk : W.grownBy W' (some g1)) : TwoF N w W' q1 g1 q2 g2 bits wf' wg :=
  ⟨hf, h.g.of (hk.block q2 h.g.fc.lt (fun e => h.d3 (by cases e; rfl))) (hk.block g2 h.g.wr.lt (fun e => h.d1 (by cases e; rfl))), h.be.grown hk (by have := h.f.wr.lt; have := h.n1; omega) (fun k e => by cases e; exact h.n1), h.n1, h.n2, h.d1, h.d2, h.d3⟩
theorem wpList_ldw {ops : Array Oper} {rest : List Oper} {o : Oper} {a : Act} {w : World} {Q : Exit → Act → World → Prop} (x : Operand) (ho : o.op = .load 30 x) (hw : Region.wanted o (yielded ops a.tmps) = true) (b k : Nat) (hx : a.eval x = .pointer (some ⟨b, k, none⟩)) (h : List UInt8) (hl : h.length = 32) (hr : w.rangeAt b k (hcs h))
    (hK : wpList Try.prog ops Q rest (a.put o.dst (.agg (bs h))) w) : wpList Try.prog ops Q (o :: rest) a w :=
  wpList_wanted hw fun _ hK' => by
    have := loadH w b k h hl hr
    unfold Oper.wp execOp
    simp only [ho, hx, Sem.run_bind, this, Result.andThen_ok, Sem.run_pure]
    exact hK' _ _ hK
theorem at_bd {P : Program} {ops : Array Oper} {R : List Oper} {a : Act} {w : World} {Q : Exit → Act → World → Prop} {d : Option Tmp} {ty : TypeId} {pos : String} {af : _} {g : _}
    (h : wpList P ops Q (⟨d, .build 30 #[], ty, pos, af, g⟩ :: R) a w) : wpList P ops Q (⟨d, .build 30 #[], ty, pos, af, g⟩ :: R) a w := h
theorem build_z (w : World) : (Instr.build 30 #[]).run Try.prog w = .ok (.agg (bs z32)) w := by kernel_rfl
theorem wpList_bdz {ops : Array Oper} {rest : List Oper} {o : Oper} {a : Act} {w : World} {Q : Exit → Act → World → Prop} (ho : o.op = .build 30 #[]) (hw : Region.wanted o (yielded ops a.tmps) = true)
    (hK : wpList Try.prog ops Q rest (a.put o.dst (.agg (bs z32))) w) : wpList Try.prog ops Q (o :: rest) a w :=
  wpList_wanted hw fun _ hK' => by
    have := build_z w
    unfold Oper.wp execOp
    simp only [ho, List.map_toArray, List.map_nil, Sem.run_bind, this, Result.andThen_ok, Sem.run_pure]
    exact hK' _ _ hK
end Go.Proofs.Ytdajeabhhkgibaa
