import Derived.Test.YtefoipjbbfcjhaaDoorFd
import Derived.Test.YtefoipjbbfcjhaaDoorDp
import Derived.Test.YtefoipjbbfcjhaaDoorEa
namespace Go.Proofs.YtefoipjbbfcjhaaDoor
open Go.RowKit
set_option linter.unusedVariables false
set_option linter.unusedSimpArgs false

theorem frF_all {la lb : Nat} {a b : Nat → Nat} : ∀ (f i : Nat), (∀ x, x < i → a x = b x) → ∀ x, x < frF la lb a b f i → a x = b x
  | 0, i, h => h
  | f + 1, i, h => by
    rw [frF]
    split
    · next hc =>
      refine frF_all f (i + 1) fun x hx => ?_
      by_cases e : x = i
      · rw [e]; exact hc.2.2
      · exact h x (by omega)
    · exact h
theorem enF_all {la lb fr : Nat} {a b : Nat → Nat} : ∀ (f i : Nat), (∀ x, x < i → a (la - 1 - x) = b (lb - 1 - x)) → ∀ x, x < enF la lb fr a b f i → a (la - 1 - x) = b (lb - 1 - x)
  | 0, i, h => h
  | f + 1, i, h => by
    rw [enF]
    split
    · next hc =>
      refine enF_all f (i + 1) fun x hx => ?_
      by_cases e : x = i
      · rw [e]; exact hc.2.2
      · exact h x (by omega)
    · exact h
theorem ds_start (A B : List Nat) : ∃ tot, DS A B tot (scrL A B) A 0 0 ∧ (¬ (2000 < A.length ∨ 2000 < B.length) → tot = lcs A B) := by
  by_cases hb : 2000 < A.length ∨ 2000 < B.length
  · refine ⟨_, ⟨[(0, 0, frN A B), (A.length - enN A B, B.length - enN A B, enN A B)] ++ [(A.length, B.length, 0)], 0, 0, 0, ?_, by rw [scrL, if_pos hb], by simp, rfl, Nat.le_refl _, Nat.zero_le _, Nat.zero_le _, rfl⟩, fun h => absurd hb h⟩
    have f1 := frN_le A B
    have e1 := enN_le A B
    refine ⟨Nat.le_refl _, Nat.le_refl _, ?_, ?_, ?_, ?_, ?_, ?_, ?_, ?_, ?_, ?_, ?_, ?_, ?_, ?_, ?_⟩
    · show 0 + frN A B ≤ A.length
      omega
    · show 0 + frN A B ≤ B.length
      omega
    · intro x hx
      dsimp only at hx ⊢
      rw [Nat.zero_add]
      exact frF_all _ 0 (fun x hx => absurd hx (by omega)) x hx
    · show 0 + frN A B ≤ A.length - enN A B
      omega
    · show 0 + frN A B ≤ B.length - enN A B
      omega
    · show A.length - enN A B + enN A B ≤ A.length
      omega
    · show B.length - enN A B + enN A B ≤ B.length
      omega
    · intro x hx
      have hx' : x < enN A B := hx
      show A.getD (A.length - enN A B + x) 0 = B.getD (B.length - enN A B + x) 0
      have := enF_all (la := A.length) (lb := B.length) (fr := frN A B) (a := fun i => A.getD i 0) (b := fun i => B.getD i 0) (A.length - 0) 0 (fun x hx => absurd hx (by omega)) (enN A B - 1 - x) (by show enN A B - 1 - x < enN A B; omega)
      rw [show A.length - 1 - (enN A B - 1 - x) = A.length - enN A B + x by omega, show B.length - 1 - (enN A B - 1 - x) = B.length - enN A B + x by omega] at this
      exact this
    · show A.length - enN A B + enN A B ≤ A.length
      omega
    · show B.length - enN A B + enN A B ≤ B.length
      omega
    · show A.length + 0 ≤ A.length
      omega
    · show B.length + 0 ≤ B.length
      omega
    · intro x hx
      dsimp only at hx
      omega
    · show A.length + 0 = A.length
      omega
    · show B.length + 0 = B.length
      omega
  · obtain ⟨g, gs⟩ := gk_kept A B (A.length + B.length - 0 - 0) 0 0 0 0 (Nat.le_refl _) (Nat.zero_le _) (Nat.zero_le _) (Nat.le_refl _) (Nat.le_refl _)
    refine ⟨lcs A B, ⟨_, 0, 0, 0, g, by rw [scrL, if_neg hb]; rfl, by simp, rfl, Nat.le_refl _, Nat.zero_le _, Nat.zero_le _, ?_⟩, fun _ => rfl⟩
    rw [gs, Nat.zero_add]
    rfl
theorem DS.bound {A B : List Nat} {tot : Nat} {R : List Pat} {now : List Nat} {cost last : Nat} (h : DS A B tot R now cost last) : cost ≤ A.length + B.length ∧ last ≤ B.length ∧ now.length ≤ A.length + B.length ∧ (∀ n ∈ now, n ∈ A ∨ n ∈ B) := by
  obtain ⟨K, i0, j0, kp, g, rfl, rfl, h1, h2, h3, h4, h5⟩ := h
  refine ⟨by omega, by omega, by simp; omega, fun n hn => ?_⟩
  rcases List.mem_append.1 hn with h | h
  · exact .inr (List.mem_of_mem_take h)
  · exact .inl (List.mem_of_mem_drop h)
/-- A row of texts that can be read from an address on. -/
def Ls (w : World) (a : Option Addr) (M : List Value) : Prop := ∀ j u, M[j]? = some u → ∃ A, a = some A ∧ w.cell? (A.add j) = some u
theorem Ls.below {w w' : World} {a : Option Addr} {M : List Value} (h : Ls w a M) (hb : Below w.heap.size w w') : Ls w' a M := fun j u hj => by
  obtain ⟨A, e, hc⟩ := h j u hj
  exact ⟨A, e, (hb.cell (p := A.add j) (World.block_lt_of_cell? _ _ hc)).trans hc⟩
theorem own_ls {w : World} {base n c : Nat} {a : Option Addr} {L : List Value} (h : w.ownsRow base 9 1 (.slice a n c) n L) : Ls w a L ∧ n ≤ c ∧ (a = none → n = 0 ∧ c = 0) := by
  rcases h.2 with ⟨e1, hn⟩ | ⟨g, cap, cur, e1, _, _, h1, _⟩
  · cases e1
    refine ⟨fun j u hj => ?_, by omega, fun _ => ⟨hn, rfl⟩⟩
    have := h.1
    have := (List.getElem?_eq_some_iff.1 hj).1
    omega
  · cases e1
    refine ⟨fun j u hj => ?_, h1, fun h => by cases h⟩
    exact ⟨_, rfl, World.ownsRow.cells h (g := g) rfl j u hj⟩
theorem wpList_slH {ops : Array Oper} {rest : List Oper} {o : Oper} {a : Act} {w : World} {Q : Exit → Act → World → Prop} (t h : Operand) (ho : o.op = .slice 27 t none (some h) none) (hg : o.guard = none) (b : Option Addr) (n c k : Nat) (M : List Value)
    (ht : a.eval t = .slice b n c) (hh : a.eval h = .int .i64 (k : Int)) (hk : k ≤ n) (hc : n ≤ c) (hM : M.length = n) (hL : Ls w b M) (h0 : b = none → n = 0 ∧ c = 0)
    (hK : ∀ b2, Ls w b2 (M.take k) → (b2 = none → k = 0 ∧ c = 0) → wpList Tryd.prog ops Q rest (a.put o.dst (.slice b2 k c)) w) : wpList Tryd.prog ops Q (o :: rest) a w :=
  wpList_plain hg fun _ hK' => by
    have hsz : (sizeOf (Tryd.prog.elem 27)).run Tryd.prog w = .ok 1 w := by kernel_rfl
    have hr : (Instr.sliceAt 27 (.slice b n c) none (some (.int .i64 (k : Int))) none).run Tryd.prog w = .ok (.slice (if c = 0 then b else b.map (·.add (0 * 1))) k c) w := by
      rw [run_sliceAt_slice w 27 _ _ _ _ Tryd.underlying27, run_slice_h w 27 b n c Tryd.underlying27 .i64 (k : Int) (by omega) (by omega), hsz]
      simp [sliced]
    unfold Oper.wp execOp
    simp only [ho, Option.map, ht, hh, Sem.run_bind, hr, Result.andThen_ok]
    refine hK' _ _ (hK _ ?_ ?_)
    · intro j u hj
      have hj2 : M[j]? = some u := by
        rw [List.getElem?_take] at hj
        split at hj
        · exact hj
        · cases hj
      obtain ⟨A, e, hc2⟩ := hL j u hj2
      subst e
      refine ⟨A, ?_, hc2⟩
      split
      · rfl
      · simp [Addr.add]
    · intro e
      cases b with
      | none =>
        have := h0 rfl
        exact ⟨by omega, this.2⟩
      | some A => exact absurd e (by split <;> simp)
theorem wpList_slL {ops : Array Oper} {rest : List Oper} {o : Oper} {a : Act} {w : World} {Q : Exit → Act → World → Prop} (t l : Operand) (ho : o.op = .slice 27 t (some l) none none) (hg : o.guard = none) (b : Option Addr) (n c k : Nat) (x : Int) (M : List Value)
    (ht : a.eval t = .slice b n c) (hl : a.eval l = .int .i64 x) (hx : x = (k : Int)) (hk : k ≤ n) (hc : n ≤ c) (hM : M.length = n) (hL : Ls w b M) (h0 : b = none → n = 0 ∧ c = 0)
    (hK : ∀ b2, Ls w b2 (M.drop k) → (b2 = none → n - k = 0 ∧ c - k = 0) → wpList Tryd.prog ops Q rest (a.put o.dst (.slice b2 (n - k) (c - k))) w) : wpList Tryd.prog ops Q (o :: rest) a w :=
  wpList_plain hg fun _ hK' => by
    subst hx
    have hsz : (sizeOf (Tryd.prog.elem 27)).run Tryd.prog w = .ok 1 w := by kernel_rfl
    have hr : (Instr.sliceAt 27 (.slice b n c) (some (.int .i64 (k : Int))) none none).run Tryd.prog w = .ok (.slice (if c = k then b else b.map (·.add (k * 1))) (n - k) (c - k)) w := by
      rw [run_sliceAt_slice w 27 _ _ _ _ Tryd.underlying27, run_slice_l w 27 b n c Tryd.underlying27 .i64 (k : Int) (by omega) (by omega), hsz]
      simp [sliced]
    unfold Oper.wp execOp
    simp only [ho, Option.map, ht, hl, Sem.run_bind, hr, Result.andThen_ok]
    refine hK' _ _ (hK _ ?_ ?_)
    · intro j u hj
      rw [List.getElem?_drop] at hj
      obtain ⟨A, e, hc2⟩ := hL (k + j) u hj
      subst e
      have := (List.getElem?_eq_some_iff.1 hj).1
      rw [if_neg (by omega)]
      refine ⟨A.add (k * 1), rfl, ?_⟩
      rw [Nat.mul_one]
      have e2 : (A.add k).add j = A.add (k + j) := by
        unfold Addr.add
        by_cases hk0 : k = 0
        · subst hk0; simp
        · by_cases hj0 : j = 0
          · subst hj0; simp
          · simp [hk0, hj0, Nat.add_assoc]
      rw [e2]
      exact hc2
    · intro e
      cases b with
      | none =>
        have := h0 rfl
        omega
      | some A => exact absurd e (by split <;> simp)
theorem at_ap {P : Program} {ops : Array Oper} {R : List Oper} {a : Act} {w : World} {Q : Exit → Act → World → Prop} {d : Option Tmp} {x y : Operand} {ts : Array TypeId} {ty : TypeId} {pos : String} {af : _} {g : _}
    (h : wpList P ops Q (⟨d, .call { callee := .builtin .append, args := #[x, y], argTypes := ts }, ty, pos, af, g⟩ :: R) a w) : wpList P ops Q (⟨d, .call { callee := .builtin .append, args := #[x, y], argTypes := ts }, ty, pos, af, g⟩ :: R) a w := h
theorem wpList_appS {ops : Array Oper} {rest : List Oper} {o : Oper} {a : Act} {w : World} {Q : Exit → Act → World → Prop} (W0 : World) (N : Nat) (x y : Operand) (ho : o.op = .call { callee := .builtin .append, args := #[x, y], argTypes := #[27, 27] }) (hg : o.guard = none)
    (v : Value) (n : Nat) (X : List Value) (hown : w.ownsRow N 9 1 v n X) (hx : a.eval x = v) (b : Option Addr) (m c : Nat) (M : List Value) (hy : a.eval y = .slice b m c) (hM : M.length = m) (hL : Ls w b M) (h0 : b = none → m = 0 ∧ c = 0) (h1 : ∀ u ∈ M, u.oneCell' = true)
    (hn : n + m ≤ 16777216) (hb : Below N W0 w) (hN : N ≤ w.heap.size)
    (h : ∀ v' w', w'.ownsRow N 9 1 v' (n + m) (X ++ M) → Below N W0 w' → wpList Tryd.prog ops Q rest (a.put o.dst v') w') : wpList Tryd.prog ops Q (o :: rest) a w := by
  obtain ⟨i, hi, hz, hsz, hby⟩ := ei27.ex
  refine wpList_plain hg fun _ hK => ?_
  cases b with
  | none =>
    obtain ⟨rfl, rfl⟩ := h0 rfl
    have hr := run_append_owned_none (P := Tryd.prog) w N 27 o.type 9 i 1 ei27.ht hi v n X hown
    obtain rfl := List.eq_nil_of_length_eq_zero hM
    unfold Oper.wp execOp
    simp only [ho, resolve, invoke, builtin, Sem.run_bind, Sem.run_pure, Result.andThen_ok, List.map_toArray, List.map_cons, List.map_nil, hx, hy, hr]
    exact hK _ _ (h v w (by rw [List.append_nil]; exact hown) hb)
  | some A =>
    obtain ⟨v', w', hr, own, gr, _, _⟩ := run_append_own_at (P := Tryd.prog) w N 27 o.type 9 i _ 1 16 ei27.ht hi hz hsz hby ei27.hzs (by omega) v n X hown A m c M (by omega)
      (fun j u hj => by
        obtain ⟨A2, e, hc⟩ := hL j u hj
        cases e
        exact hc) h1 (by unfold maxLen; omega) (by omega) hN
    unfold Oper.wp execOp
    simp only [ho, resolve, invoke, builtin, Sem.run_bind, Sem.run_pure, Result.andThen_ok, List.map_toArray, List.map_cons, List.map_nil, hx, hy, hr]
    exact hK _ _ (h v' w' own (hb.grown gr hN (fun k hk => (World.ownsRow.lt hown k hk).1)))
theorem one_sV (l : List Nat) : ∀ u ∈ sV l, u.oneCell' = true := by
  intro u hu
  simp only [sV, List.mem_map] at hu
  obtain ⟨n, _, rfl⟩ := hu
  rfl
theorem PC.below {w w' : World} {g o a c : Nat} {t : ByteArray} (h : PC w g o a c t) (hb : Below w.heap.size w w') : PC w' g o a c t := by
  have G : ∀ j v, w.cell? ⟨g, j, none⟩ = some v → w'.cell? ⟨g, j, none⟩ = some v := fun j v hc => (hb.cell (p := ⟨g, j, none⟩) (World.block_lt_of_cell? _ _ hc)).trans hc
  exact ⟨G _ _ h.c0, G _ _ h.c1, G _ _ h.c2, G _ _ h.c3, G _ _ h.c4, G _ _ h.c5, G _ _ h.c6⟩
end Go.Proofs.YtefoipjbbfcjhaaDoor
