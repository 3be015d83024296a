import Derived.Test.YtldlljobofnmmabDoorXea
import Derived.Test.YtldlljobofnmmabDoorXe
namespace Go.Proofs.YtldlljobofnmmabDoor
open Go.RowKit
set_option linter.unusedVariables false
set_option linter.unusedSimpArgs false

theorem cellW {w1 w : World} {p : Addr} {u : Option Value} (hw : w1 = w.drew) (h : w.cell? p = u) : w1.cell? p = u := by rw [hw]; exact h
/-- An act behind some answers, the last one first. -/
def putsR (a : Act) : List (Nat × Value) → Act
  | [] => a
  | (k, u) :: L => (putsR a L).put (some k) u
def lkp : List (Nat × Value) → Nat → Option Value
  | [], _ => none
  | (k, u) :: L, i => cond (Nat.beq k i) (some u) (lkp L i)
section
variable {a : Act} {n : Nat} {L : List (Nat × Value)} {i : Nat} {v : Value}
theorem putsR_size (z : a.tmps.size = n) : ∀ L, (putsR a L).tmps.size = n
  | [] => z
  | (k, u) :: L => pz (a := putsR a L) rfl (putsR_size z L)
theorem zgD (z : a.tmps.size = n) (hi : Nat.blt i n = true) : ∀ {L : List (Nat × Value)}, lkp L i = some v → (putsR a L).tmps.getD i undef = v
  | [], h => by cases h
  | (k, u) :: L, h => by
    unfold lkp at h
    by_cases e : k = i
    · rw [show Nat.beq k i = true by rw [e]; exact Nat.beq_refl i] at h
      have h' : some u = some v := h
      cases h'
      subst e
      exact pq (a := putsR a L) rfl (putsR_size z L) (Nat.le_of_ble_eq_true hi)
    · rw [show Nat.beq k i = false by cases q : Nat.beq k i with | false => rfl | true => exact absurd (Nat.eq_of_beq_eq_true q) e] at h
      exact pk (a := putsR a L) rfl (zgD z hi h) (Ne.symm e)
/-- What was answered. -/
theorem zg (z : a.tmps.size = n) (h : lkp L i = some v) (hi : Nat.blt i n = true := by rfl) : (putsR a L).eval (.tmp i) = v := zgD z hi h
theorem ziD (h0 : a.tmps.getD i undef = v) : ∀ {L : List (Nat × Value)}, lkp L i = none → (putsR a L).tmps.getD i undef = v
  | [], _ => h0
  | (k, u) :: L, h => by
    unfold lkp at h
    by_cases e : k = i
    · rw [show Nat.beq k i = true by rw [e]; exact Nat.beq_refl i] at h
      cases h
    · rw [show Nat.beq k i = false by cases q : Nat.beq k i with | false => rfl | true => exact absurd (Nat.eq_of_beq_eq_true q) e] at h
      exact pk (a := putsR a L) rfl (ziD h0 h) (Ne.symm e)
/-- What was there ahead. -/
theorem zi (h0 : a.tmps.getD i undef = v) (h : lkp L i = none) : (putsR a L).eval (.tmp i) = v := ziD h0 h
def notB : Value → Bool → Bool
  | .bool c, b => c != b
  | _, _ => true
variable {ops : Array Oper} {o og : Oper} {k d : Nat} {b : Bool}
theorem zw (z : a.tmps.size = n) (hg : o.guard = some (k, b)) (ho : ops[k]? = some og) (hd : og.dst = some d) (h : (putsR a L).eval (.tmp d) = .bool b) (hi : Nat.blt d n = true := by rfl) : Region.wanted o (yielded ops (putsR a L).tmps) = true := by
  have hd2 : d < (putsR a L).tmps.size := by rw [putsR_size z L]; exact Nat.le_of_ble_eq_true hi
  have e : (putsR a L).tmps[d]? = some (.bool b) := by
    have h' : (putsR a L).tmps.getD d undef = .bool b := h
    rw [Array.getD_eq_getD_getElem?, Array.getElem?_eq_getElem hd2] at h'
    rw [Array.getElem?_eq_getElem hd2]
    exact congrArg some h'
  simp [Region.wanted, hg, yielded, ho, hd, e]
theorem zx (z : a.tmps.size = n) (hg : o.guard = some (k, b)) (ho : ops[k]? = some og) (hd : og.dst = some d) (h : (putsR a L).eval (.tmp d) = v) (hv : notB v b = true := by rfl) (hi : Nat.blt d n = true := by rfl) : Region.wanted o (yielded ops (putsR a L).tmps) = false := by
  have hd2 : d < (putsR a L).tmps.size := by rw [putsR_size z L]; exact Nat.le_of_ble_eq_true hi
  have e : (putsR a L).tmps[d]? = some v := by
    have h' : (putsR a L).tmps.getD d undef = v := h
    rw [Array.getD_eq_getD_getElem?, Array.getElem?_eq_getElem hd2] at h'
    rw [Array.getElem?_eq_getElem hd2]
    exact congrArg some h'
  unfold Region.wanted yielded
  rw [hg]
  simp only [ho, Option.bind_some, hd, e]
  cases v with
  | bool c => cases c <;> cases b <;> first | rfl | cases hv
  | _ => rfl
end
/-- What is left of a quiet region. (Words of their own, so that nobody looks into them.) -/
structure ZL (P : Program) (ops : Array Oper) (Q : Exit → Act → World → Prop) (rest : List Oper) (a : Act) (L : List (Nat × Value)) (w : World) : Prop where
  out : wpList P ops Q rest (putsR a L) w
structure YL (P : Program) (md : Region.Mode) (ops : Array Oper) (Q : Exit → Act → World → Prop) (S : World → Prop) (fuel : Nat) (listed : Array Bool) (a : Act) (L : List (Nat × Value)) (w : World) : Prop where
  out : wpAnyH P md ops (NoPanic Q) S fuel listed (putsR a L) w
structure XL (P : Program) (md : Region.Mode) (ops : Array Oper) (Q : Exit → Act → World → Prop) (S : World → Prop) (m fuel : Nat) (listed : Array Bool) (a : Act) (L : List (Nat × Value)) (w : World) : Prop where
  out : wpAnyE P md ops (NoPanic Q) S m fuel listed (putsR a L) w
section
variable {P : Program} {ops : Array Oper} {rest : List Oper} {o : Oper} {a : Act} {w w2 : World} {Q : Exit → Act → World → Prop} {L : List (Nat × Value)} {d : Nat} {v : Value}
theorem z0 {ops' : List Oper} {id : Nat} (hl : ops.toList = ops') (h : ZL P ops Q ops' a [] w) : (Code.region id ops false).wp P Q a w := wp_region_list (by rw [hl]; exact h.out)
theorem ze {a' : Act} (e : putsR a L = a') (h : Q .normal a' w) : ZL P ops Q [] a L w := ⟨wpList_nil (by rw [e]; exact h)⟩
theorem zv (hw : Region.wanted o (yielded ops (putsR a L).tmps) = true) (hr : (execOp (putsR a L).eval o).run P w = .ok (.value v) w2) (h : ZL P ops Q rest a ((d, v) :: L) w2) (hd : o.dst = some d := by rfl) : ZL P ops Q (o :: rest) a L w := ⟨qk hw hr (fun a' e => by subst e; exact h.out) hd⟩
theorem zn (hw : Region.wanted o (yielded ops (putsR a L).tmps) = false) (h : ZL P ops Q rest a ((d, undef) :: L) w) (hd : o.dst = some d := by rfl) : ZL P ops Q (o :: rest) a L w := ⟨qn hw (fun a' e => by subst e; exact h.out) hd⟩
theorem zs (hw : Region.wanted o (yielded ops (putsR a L).tmps) = true) (hr : (execOp (putsR a L).eval o).run P w = .ok .skip w2) (h : ZL P ops Q rest a L w2) (hd : o.dst = none := by rfl) : ZL P ops Q (o :: rest) a L w := ⟨qs hw hr h.out hd⟩
theorem zd (hw : Region.wanted o (yielded ops (putsR a L).tmps) = true) (hr : (execOp (putsR a L).eval o).run P w = .ok (.value v) w2) (h : ZL P ops Q rest a L w2) (hd : o.dst = none := by rfl) : ZL P ops Q (o :: rest) a L w := ⟨qd hw hr h.out hd⟩
theorem zc {F : Nat} {vs : Array Value} {R : Ending → World → Prop} (hw : Region.wanted o (yielded ops (putsR a L).tmps) = true) (hr : (execOp (putsR a L).eval o).run P w = .ok (.enter F vs) w) (hC : Calls P F vs w R) (h : ∀ e w', R e w' → ∃ v, e = .returned v ∧ ZL P ops Q rest a ((d, v) :: L) w') (hd : o.dst = some d := by rfl) : ZL P ops Q (o :: rest) a L w :=
  ⟨qc hw hr hC (fun e w' r => by obtain ⟨v, e1, h1⟩ := h e w' r; exact ⟨v, e1, fun a' q => by subst q; exact h1.out⟩) hd⟩
end
section
variable {P : Program} {w : World} {a : Act} {o : Oper} {F : Nat} {ts : Array TypeId}
theorem exec_c0 (ho : o.op = .call { callee := .value (.func F), args := #[], argTypes := ts }) (hf : (callFunc F #[]).run P w = .ok (.enter F #[]) w := by go_simp) : (execOp a.eval o).run P w = .ok (.enter F #[]) w := by
  have e0 : a.eval (.func F) = .func (.func F) #[] #[] := rfl
  unfold execOp; simp [ho, resolve, invoke, e0, Deferred.ofValue, Result.andThen, hf]
theorem exec_c1 {x1 : Operand} {v1 : Value} (ho : o.op = .call { callee := .value (.func F), args := #[x1], argTypes := ts }) (h1 : a.eval x1 = v1) (hf : (callFunc F #[v1]).run P w = .ok (.enter F #[v1]) w := by go_simp) : (execOp a.eval o).run P w = .ok (.enter F #[v1]) w := by
  have e0 : a.eval (.func F) = .func (.func F) #[] #[] := rfl
  unfold execOp; simp [ho, resolve, invoke, h1, e0, Deferred.ofValue, Result.andThen, hf]
theorem exec_c2 {x1 x2 : Operand} {v1 v2 : Value} (ho : o.op = .call { callee := .value (.func F), args := #[x1, x2], argTypes := ts }) (h1 : a.eval x1 = v1) (h2 : a.eval x2 = v2) (hf : (callFunc F #[v1, v2]).run P w = .ok (.enter F #[v1, v2]) w := by go_simp) : (execOp a.eval o).run P w = .ok (.enter F #[v1, v2]) w := by
  have e0 : a.eval (.func F) = .func (.func F) #[] #[] := rfl
  unfold execOp; simp [ho, resolve, invoke, h1, h2, e0, Deferred.ofValue, Result.andThen, hf]
theorem exec_c3 {x1 x2 x3 : Operand} {v1 v2 v3 : Value} (ho : o.op = .call { callee := .value (.func F), args := #[x1, x2, x3], argTypes := ts }) (h1 : a.eval x1 = v1) (h2 : a.eval x2 = v2) (h3 : a.eval x3 = v3) (hf : (callFunc F #[v1, v2, v3]).run P w = .ok (.enter F #[v1, v2, v3]) w := by go_simp) : (execOp a.eval o).run P w = .ok (.enter F #[v1, v2, v3]) w := by
  have e0 : a.eval (.func F) = .func (.func F) #[] #[] := rfl
  unfold execOp; simp [ho, resolve, invoke, h1, h2, h3, e0, Deferred.ofValue, Result.andThen, hf]
theorem exec_c4 {x1 x2 x3 x4 : Operand} {v1 v2 v3 v4 : Value} (ho : o.op = .call { callee := .value (.func F), args := #[x1, x2, x3, x4], argTypes := ts }) (h1 : a.eval x1 = v1) (h2 : a.eval x2 = v2) (h3 : a.eval x3 = v3) (h4 : a.eval x4 = v4) (hf : (callFunc F #[v1, v2, v3, v4]).run P w = .ok (.enter F #[v1, v2, v3, v4]) w := by go_simp) : (execOp a.eval o).run P w = .ok (.enter F #[v1, v2, v3, v4]) w := by
  have e0 : a.eval (.func F) = .func (.func F) #[] #[] := rfl
  unfold execOp; simp [ho, resolve, invoke, h1, h2, h3, h4, e0, Deferred.ofValue, Result.andThen, hf]
theorem zu0 {L : List (Nat × Value)} {R : Result Next} (h : ∀ b : Act, (execOp b.eval o).run P w = R) : (execOp (putsR a L).eval o).run P w = R := h _
theorem zu1 {L : List (Nat × Value)} {R : Result Next} {i : Nat} {v : Value} (h1 : (putsR a L).eval (.tmp i) = v) (h : ∀ b : Act, b.tmps.getD i undef = v → (execOp b.eval o).run P w = R) : (execOp (putsR a L).eval o).run P w = R := h _ h1
theorem zu2 {L : List (Nat × Value)} {R : Result Next} {i j : Nat} {v u : Value} (h1 : (putsR a L).eval (.tmp i) = v) (h2 : (putsR a L).eval (.tmp j) = u) (h : ∀ b : Act, b.tmps.getD i undef = v → b.tmps.getD j undef = u → (execOp b.eval o).run P w = R) : (execOp (putsR a L).eval o).run P w = R := h _ h1 h2
theorem zu3 {L : List (Nat × Value)} {R : Result Next} {i j k : Nat} {v u x : Value} (h1 : (putsR a L).eval (.tmp i) = v) (h2 : (putsR a L).eval (.tmp j) = u) (h3 : (putsR a L).eval (.tmp k) = x) (h : ∀ b : Act, b.tmps.getD i undef = v → b.tmps.getD j undef = u → b.tmps.getD k undef = x → (execOp b.eval o).run P w = R) : (execOp (putsR a L).eval o).run P w = R := h _ h1 h2 h3
theorem exec_not {t : TypeId} {x : Operand} {b : Bool} (ho : o.op = .unOp .not t x) (hx : a.eval x = .bool b) : (execOp a.eval o).run P w = .ok (.value (.bool (!b))) w := by
  unfold execOp; simp only [ho, hx]; go_simp
theorem exec_pickT {c x y : Operand} {v : Value} (ho : o.op = .pick c x y) (hc : a.eval c = .bool true) (hx : a.eval x = v) : (execOp a.eval o).run P w = .ok (.value v) w := by
  unfold execOp; simp only [ho, hc, hx]; go_simp
theorem exec_pickF {c x y : Operand} {v : Value} (ho : o.op = .pick c x y) (hc : a.eval c = .bool false) (hy : a.eval y = v) : (execOp a.eval o).run P w = .ok (.value v) w := by
  unfold execOp; simp only [ho, hc, hy]; go_simp
end
section
variable {P : Program} {md : Region.Mode} {ops : Array Oper} {Q : Exit → Act → World → Prop} {S : World → Prop} {fuel : Nat} {listed : Array Bool} {a : Act} {w w2 : World} {L : List (Nat × Value)} {o : Oper} {d : Nat} {v : Value}
theorem y0 {id n : Nat} {rep : Array Bool} (S : World → Prop) (hS : S w.drew) (h : S w.drew → YL P .any ops Q S n rep a [] w.drew) (hn : ops.size = n := by rfl) (hr : Array.replicate n false = rep := by rfl) (hm : P.follows .mixedOrders = true := by kernel_rfl) : (Code.region id ops true).wp P Q a w :=
  wp_region_noPanic (wp_region_held_drew hm hS (fun q => by rw [hn, hr]; exact (h q).out))
theorem x0 {id n : Nat} {rep : Array Bool} (m : Nat) (S : World → Prop) (hS : S w.drew) (h : S w.drew → XL P .any ops Q S m n rep a [] w.drew) (hn : ops.size = n := by rfl) (hr : Array.replicate n false = rep := by rfl) (hm : P.follows .mixedOrders = true := by kernel_rfl) : (Code.region id ops true).wp P Q a w :=
  wp_region_noPanic (wp_region_E m hm hS (fun q => by rw [hn, hr]; exact (h q).out))
/-- Steps of a region that draws: a quiet one. -/
theorem yv (i : Nat) (hi : ops[i]? = some o) (hw : Region.wanted o (yielded ops (putsR a L).tmps) = true) (hr : ∀ w1, S w1 → (execOp (putsR a L).eval o).run P w1 = .ok (.value v) w1) (hS : S w) (h : YL P md ops Q S fuel (listed.setIfInBounds i true) a ((d, v) :: L) w)
    (hd : o.dst = some d := by rfl) (hs : Region.noSelect ops = true := by kernel_rfl) (hf : Region.free md ops listed i = true := by kernel_rfl) (hy : (Region.ready md ops listed).contains i = true := by kernel_rfl) : YL P md ops Q S (fuel + 1) listed a L w :=
  ⟨wpAnyH_take hi hs hf hy (fun _ _ _ h => h) (Or.inl ⟨hw, hr⟩) hS (by rw [hd]; exact h.out)⟩
theorem yn (i : Nat) (hi : ops[i]? = some o) (hw : Region.wanted o (yielded ops (putsR a L).tmps) = false) (hS : S w) (h : YL P md ops Q S fuel (listed.setIfInBounds i true) a ((d, undef) :: L) w)
    (hd : o.dst = some d := by rfl) (hs : Region.noSelect ops = true := by kernel_rfl) (hf : Region.free md ops listed i = true := by kernel_rfl) (hy : (Region.ready md ops listed).contains i = true := by kernel_rfl) : YL P md ops Q S (fuel + 1) listed a L w :=
  ⟨wpAnyH_take (v := undef) hi hs hf hy (fun _ _ _ h => h) (Or.inr ⟨hw, rfl⟩) hS (by rw [hd]; exact h.out)⟩
theorem yc (i : Nat) (hi : ops[i]? = some o) {F : Nat} {vs : Array Value} {R : Ending → World → Prop} (hw : Region.wanted o (yielded ops (putsR a L).tmps) = true) (hr : (execOp (putsR a L).eval o).run P w = .ok (.enter F vs) w) (hC : Calls P F vs w R) (h : ∀ e w', R e w' → ∃ v, e = .returned v ∧ S w' ∧ (S w' → YL P md ops Q S fuel (listed.setIfInBounds i true) a ((d, v) :: L) w'))
    (hd : o.dst = some d := by rfl) (hy : Region.ready md ops listed = [i] := by kernel_rfl) : YL P md ops Q S (fuel + 1) listed a L w :=
  ⟨wpAnyH_ready hy (by simp) (AllReadyH.cons hi (fun K hK => by
    rw [if_pos hw]
    unfold Oper.wp
    rw [hr, Oper.upon_enter]
    refine hC.mono ?_
    intro e w' hp
    obtain ⟨v, rfl, hs, hh⟩ := h e w' hp
    exact hK.out _ _ hs (fun q => by rw [hd]; exact (hh q).out)) AllReadyH.nil)⟩
theorem yr (i : Nat) (hi : ops[i]? = some o) (hw : Region.wanted o (yielded ops (putsR a L).tmps) = true) (hr : (execOp (putsR a L).eval o).run P w = .ok (.value v) w2) (hs : S w2) (h : S w2 → YL P md ops Q S fuel (listed.setIfInBounds i true) a ((d, v) :: L) w2)
    (hd : o.dst = some d := by rfl) (hy : Region.ready md ops listed = [i] := by kernel_rfl) : YL P md ops Q S (fuel + 1) listed a L w :=
  ⟨wpAnyH_ready hy (by simp) (AllReadyH.cons hi (fun K hK => by
    rw [if_pos hw]
    unfold Oper.wp
    rw [hr]
    exact hK.out _ _ hs (fun q => by rw [hd]; exact (h q).out)) AllReadyH.nil)⟩
theorem ys (i : Nat) (hi : ops[i]? = some o) (hw : Region.wanted o (yielded ops (putsR a L).tmps) = true) (hr : (execOp (putsR a L).eval o).run P w = .ok .skip w2) (hs : S w2) (h : S w2 → YL P md ops Q S fuel (listed.setIfInBounds i true) a L w2)
    (hd : o.dst = none := by rfl) (hy : Region.ready md ops listed = [i] := by kernel_rfl) : YL P md ops Q S (fuel + 1) listed a L w :=
  ⟨wpAnyH_ready hy (by simp) (AllReadyH.cons hi (fun K hK => by
    rw [if_pos hw]
    unfold Oper.wp
    rw [hr]
    exact hK.out _ _ hs (fun q => by rw [hd]; exact (h q).out)) AllReadyH.nil)⟩
theorem yd (i : Nat) (hi : ops[i]? = some o) (hw : Region.wanted o (yielded ops (putsR a L).tmps) = true) (hr : (execOp (putsR a L).eval o).run P w = .ok (.value v) w2) (hs : S w2) (h : S w2 → YL P md ops Q S fuel (listed.setIfInBounds i true) a L w2)
    (hd : o.dst = none := by rfl) (hy : Region.ready md ops listed = [i] := by kernel_rfl) : YL P md ops Q S (fuel + 1) listed a L w :=
  ⟨wpAnyH_ready hy (by simp) (AllReadyH.cons hi (fun K hK => by
    rw [if_pos hw]
    unfold Oper.wp
    rw [hr]
    exact hK.out _ _ hs (fun q => by rw [hd]; exact (h q).out)) AllReadyH.nil)⟩
theorem ye {a' : Act} (e : putsR a L = a') (h : Q .normal a' w) (hy : Region.ready md ops listed = [] := by kernel_rfl) : YL P md ops Q S fuel listed a L w := ⟨wpAnyH_done hy (NoPanic.normal (by rw [e]; exact h)) _⟩
/- The same where S need not hold behind the operation m. -/
variable {m : Nat}
theorem xv (i : Nat) (hi : ops[i]? = some o) (hw : Region.wanted o (yielded ops (putsR a L).tmps) = true) (hr : ∀ w1, S w1 → (execOp (putsR a L).eval o).run P w1 = .ok (.value v) w1) (hS : S w) (h : XL P md ops Q S m fuel (listed.setIfInBounds i true) a ((d, v) :: L) w)
    (hd : o.dst = some d := by rfl) (hs : Region.noSelect ops = true := by kernel_rfl) (hf : Region.free md ops listed i = true := by kernel_rfl) (hy : (Region.ready md ops listed).contains i = true := by kernel_rfl) (ht : waitsB md ops listed ops.size i m = true := by kernel_rfl) : XL P md ops Q S m (fuel + 1) listed a L w :=
  ⟨wpAnyE_take ops.size hi hs hf hy ht (fun _ _ _ h => h) (Or.inl ⟨hw, hr⟩) hS (by rw [hd]; exact h.out)⟩
theorem xn (i : Nat) (hi : ops[i]? = some o) (hw : Region.wanted o (yielded ops (putsR a L).tmps) = false) (hS : S w) (h : XL P md ops Q S m fuel (listed.setIfInBounds i true) a ((d, undef) :: L) w)
    (hd : o.dst = some d := by rfl) (hs : Region.noSelect ops = true := by kernel_rfl) (hf : Region.free md ops listed i = true := by kernel_rfl) (hy : (Region.ready md ops listed).contains i = true := by kernel_rfl) (ht : waitsB md ops listed ops.size i m = true := by kernel_rfl) : XL P md ops Q S m (fuel + 1) listed a L w :=
  ⟨wpAnyE_take (v := undef) ops.size hi hs hf hy ht (fun _ _ _ h => h) (Or.inr ⟨hw, rfl⟩) hS (by rw [hd]; exact h.out)⟩
theorem xc (i : Nat) (hi : ops[i]? = some o) {F : Nat} {vs : Array Value} {R : Ending → World → Prop} (hw : Region.wanted o (yielded ops (putsR a L).tmps) = true) (hr : (execOp (putsR a L).eval o).run P w = .ok (.enter F vs) w) (hC : Calls P F vs w R) (h : ∀ e w', R e w' → ∃ v, e = .returned v ∧ (i ≠ m → S w') ∧ ((i ≠ m → S w') → XL P md ops Q S m fuel (listed.setIfInBounds i true) a ((d, v) :: L) w'))
    (hd : o.dst = some d := by rfl) (hy : Region.ready md ops listed = [i] := by kernel_rfl) : XL P md ops Q S m (fuel + 1) listed a L w :=
  ⟨wpAnyE_one hy hi (fun K hK => by
    rw [if_pos hw]
    unfold Oper.wp
    rw [hr, Oper.upon_enter]
    refine hC.mono ?_
    intro e w' hp
    obtain ⟨v, rfl, hs, hh⟩ := h e w' hp
    exact hK.out _ _ hs (fun q => by rw [hd]; exact (hh q).out))⟩
theorem xr (i : Nat) (hi : ops[i]? = some o) (hw : Region.wanted o (yielded ops (putsR a L).tmps) = true) (hr : (execOp (putsR a L).eval o).run P w = .ok (.value v) w2) (hs : i ≠ m → S w2) (h : (i ≠ m → S w2) → XL P md ops Q S m fuel (listed.setIfInBounds i true) a ((d, v) :: L) w2)
    (hd : o.dst = some d := by rfl) (hy : Region.ready md ops listed = [i] := by kernel_rfl) : XL P md ops Q S m (fuel + 1) listed a L w :=
  ⟨wpAnyE_one hy hi (fun K hK => by
    rw [if_pos hw]
    unfold Oper.wp
    rw [hr]
    exact hK.out _ _ hs (fun q => by rw [hd]; exact (h q).out))⟩
theorem xs (i : Nat) (hi : ops[i]? = some o) (hw : Region.wanted o (yielded ops (putsR a L).tmps) = true) (hr : (execOp (putsR a L).eval o).run P w = .ok .skip w2) (hs : i ≠ m → S w2) (h : (i ≠ m → S w2) → XL P md ops Q S m fuel (listed.setIfInBounds i true) a L w2)
    (hd : o.dst = none := by rfl) (hy : Region.ready md ops listed = [i] := by kernel_rfl) : XL P md ops Q S m (fuel + 1) listed a L w :=
  ⟨wpAnyE_one hy hi (fun K hK => by
    rw [if_pos hw]
    unfold Oper.wp
    rw [hr]
    exact hK.out _ _ hs (fun q => by rw [hd]; exact (h q).out))⟩
theorem xd (i : Nat) (hi : ops[i]? = some o) (hw : Region.wanted o (yielded ops (putsR a L).tmps) = true) (hr : (execOp (putsR a L).eval o).run P w = .ok (.value v) w2) (hs : i ≠ m → S w2) (h : (i ≠ m → S w2) → XL P md ops Q S m fuel (listed.setIfInBounds i true) a L w2)
    (hd : o.dst = none := by rfl) (hy : Region.ready md ops listed = [i] := by kernel_rfl) : XL P md ops Q S m (fuel + 1) listed a L w :=
  ⟨wpAnyE_one hy hi (fun K hK => by
    rw [if_pos hw]
    unfold Oper.wp
    rw [hr]
    exact hK.out _ _ hs (fun q => by rw [hd]; exact (h q).out))⟩
theorem xe {a' : Act} (e : putsR a L = a') (h : Q .normal a' w) (hy : Region.ready md ops listed = [] := by kernel_rfl) : XL P md ops Q S m fuel listed a L w := ⟨wpAnyE_done hy (NoPanic.normal (by rw [e]; exact h)) _⟩
end
end Go.Proofs.YtldlljobofnmmabDoor
