import Derived.Test.YtldlljobofnmmabDoorXi
import Derived.Laws.CopyRow
namespace Go.Proofs.YtldlljobofnmmabDoor
open Go.RowKit
set_option linter.unusedVariables false
set_option linter.unusedSimpArgs false

/-- Rows of whatever structs: how one lies in memory, its size, its type, its rows' type, the zero one. -/
structure RowT (κ : Type) where
  c : κ → List Value
  ok : κ → Prop
  k : Nat
  bytes : Nat
  e : TypeId
  t : TypeId
  z : κ
structure RowT.Is {κ : Type} (R : RowT κ) : Prop where
  zok : R.ok R.z
  len : ∀ x, R.ok x → (R.c x).length = R.k
  one : ∀ x, ∀ v ∈ R.c x, v.oneCell' = true
  und : Tryd.prog.underlying R.t = some (.slice R.e)
  info : (Tryd.prog.info? R.e).map (fun i => (i.zero, i.size, i.bytes)) = some (some (.agg (R.c R.z).toArray), R.k, R.bytes)
  row : ∃ d, Tryd.prog.underlying R.e = some d ∧ d.isRow = true
  kpos : 0 < R.k
  kmax : R.k ≤ 100000
section
variable {κ : Type} {R : RowT κ}
def RowT.At (R : RowT κ) (w : World) (a : Option Addr) (L : List κ) : Prop := L = [] ∨ ∃ b off, a = some ⟨b, off, none⟩ ∧ b < w.heap.size ∧ ∀ i h, L[i]? = some h → w.rangeAt b (off + R.k * i) (R.c h)
theorem RowT.At.keepB {w w' : World} {a : Option Addr} {L : List κ} (h : R.At w a L) (hs : w.heap.size ≤ w'.heap.size) (hk : ∀ b o, a = some ⟨b, o, none⟩ → b < w.heap.size → w'.heap[b]? = w.heap[b]?) : R.At w' a L := by
  rcases h with h | ⟨b, off, e, hl, hr⟩
  · exact .inl h
  · exact .inr ⟨b, off, e, Nat.lt_of_lt_of_le hl hs, fun i x hx => rangeAt_keep (hr i x hx) (hk b off e hl)⟩
theorem RowT.At.below {w w' : World} {a : Option Addr} {L : List κ} (h : R.At w a L) (hb : Below w.heap.size w w') : R.At w' a L := h.keepB hb.size (fun b _ _ hl => hb.block b hl)
theorem RowT.At.get {w : World} {a : Option Addr} {L : List κ} (h : R.At w a L) {i : Nat} (hi : i < L.length) : ∃ b o, a = some ⟨b, o, none⟩ ∧ b < w.heap.size ∧ w.rangeAt b (o + R.k * i) (R.c L[i]) := by
  rcases h with h | ⟨b, off, e, hl, hr⟩
  · subst h; cases hi
  · exact ⟨b, off, e, hl, hr i _ (List.getElem?_eq_getElem hi)⟩
def RowT.flat (R : RowT κ) (L : List κ) : List Value := L.flatMap R.c
theorem RowT.flat_app (L M : List κ) : R.flat (L ++ M) = R.flat L ++ R.flat M := by simp [RowT.flat]
theorem RowT.flat_cons (x : κ) (L : List κ) : R.flat (x :: L) = R.c x ++ R.flat L := rfl
theorem RowT.flat_len (I : R.Is) : ∀ {L : List κ}, (∀ h ∈ L, R.ok h) → (R.flat L).length = R.k * L.length
  | [], _ => rfl
  | x :: L, ok => by
    have := RowT.flat_len I (L := L) (fun h hh => ok h (by simp [hh]))
    rw [RowT.flat_cons, List.length_append, I.len x (ok x (by simp)), this, List.length_cons, Nat.mul_succ, Nat.add_comm]
theorem RowT.flat_get (I : R.Is) : ∀ {L : List κ}, (∀ h ∈ L, R.ok h) → ∀ {i : Nat} {h : κ}, L[i]? = some h → ∀ {j : Nat} {v : Value}, (R.c h)[j]? = some v → (R.flat L)[R.k * i + j]? = some v
  | x :: L, ok, 0, h, hi, j, v, hj => by
    simp only [List.getElem?_cons_zero, Option.some.injEq] at hi
    subst hi
    have hl := (List.getElem?_eq_some_iff.1 hj).1
    rw [Nat.mul_zero, Nat.zero_add, RowT.flat_cons, List.getElem?_append_left hl]
    exact hj
  | x :: L, ok, i + 1, h, hi, j, v, hj => by
    simp only [List.getElem?_cons_succ] at hi
    have := RowT.flat_get I (L := L) (fun h hh => ok h (by simp [hh])) hi hj
    have l := I.len x (ok x (by simp))
    rw [RowT.flat_cons, List.getElem?_append_right (by rw [l, Nat.mul_succ]; omega), l, show R.k * (i + 1) + j - R.k = R.k * i + j by rw [Nat.mul_succ]; omega]
    exact this
  | [], _, i, h, hi, _, _, _ => by simp at hi
theorem RowT.flat_inv (I : R.Is) : ∀ {L : List κ}, (∀ h ∈ L, R.ok h) → ∀ {p : Nat} {u : Value}, (R.flat L)[p]? = some u → ∃ i h j, p = R.k * i + j ∧ L[i]? = some h ∧ (R.c h)[j]? = some u
  | [], _, p, u, hp => by simp [RowT.flat] at hp
  | x :: L, ok, p, u, hp => by
    have l := I.len x (ok x (by simp))
    rw [RowT.flat_cons, List.getElem?_append] at hp
    by_cases h : p < (R.c x).length
    · rw [if_pos h] at hp
      exact ⟨0, x, p, by simp, rfl, hp⟩
    · rw [if_neg h] at hp
      obtain ⟨i, y, j, e, hi, hj⟩ := RowT.flat_inv I (L := L) (fun h hh => ok h (by simp [hh])) hp
      exact ⟨i + 1, y, j, by rw [Nat.mul_succ]; omega, hi, hj⟩
theorem RowT.flat_one (I : R.Is) (L : List κ) : ∀ u ∈ R.flat L, u.oneCell' = true := by
  intro u hu
  simp only [RowT.flat, List.mem_flatMap] at hu
  obtain ⟨h, _, hv⟩ := hu
  exact I.one h u hv
/-- A row of the call's own. -/
def RowT.Own (R : RowT κ) (w : World) (base : Nat) (v : Value) (L : List κ) : Prop := w.ownsRow base R.e R.k v L.length (R.flat L)
theorem RowT.Own.keep {w w' : World} {base : Nat} {v : Value} {L : List κ} (h : R.Own w base v L) (hk : ∀ k, v.ownBlock = some k → w'.heap[k]? = w.heap[k]?) : R.Own w' base v L := by
  refine ⟨h.1, ?_⟩
  rcases h.2 with hn | ⟨g, cap, cur, rfl, hbg, hg, rest⟩
  · exact .inl hn
  · exact .inr ⟨g, cap, cur, rfl, hbg, by rw [hk g rfl]; exact hg, rest⟩
theorem RowT.Own.cells {w : World} {base : Nat} {v : Value} {L : List κ} (h : R.Own w base v L) {k : Nat} (hk : v.ownBlock = some k) : base ≤ k ∧ ∃ c, w.heap[k]? = some (.cells c R.e (0, 0)) := by
  rcases h.2 with ⟨rfl, _⟩ | ⟨g, cap, cur, rfl, hb, hg, _⟩
  · cases hk
  · simp only [Value.ownBlock, Option.some.injEq] at hk
    subst hk
    exact ⟨hb, _, hg⟩
theorem RowT.Own.lt {w : World} {base : Nat} {v : Value} {L : List κ} (h : R.Own w base v L) {k : Nat} (hk : v.ownBlock = some k) : k < w.heap.size := by
  obtain ⟨_, c, e⟩ := h.cells hk
  exact (Array.getElem?_eq_some_iff.1 e).1
theorem RowT.Own.below {w w' : World} {base : Nat} {v : Value} {L : List κ} (h : R.Own w base v L) (hb : Below w.heap.size w w') : R.Own w' base v L := h.keep (fun k hk => hb.block k (h.lt hk))
theorem RowT.Own.open {w : World} {base : Nat} {v : Value} {L : List κ} (I : R.Is) (h : R.Own w base v L) (ok : ∀ h ∈ L, R.ok h) : ∃ a c, v = .slice a L.length c ∧ R.At w a L ∧ L.length ≤ c ∧ (∀ b o, a = some ⟨b, o, none⟩ → v.ownBlock = some b) := by
  rcases h.2 with ⟨rfl, hn⟩ | ⟨g, cap, cur, rfl, hbg, hg, hnc, hcm, hcs, htake⟩
  · obtain rfl : L = [] := List.eq_nil_of_length_eq_zero hn
    exact ⟨none, 0, rfl, .inl rfl, Nat.le_refl _, fun b o e => by cases e⟩
  · refine ⟨some ⟨g, 0, none⟩, cap, rfl, .inr ⟨g, 0, rfl, (Array.getElem?_eq_some_iff.1 hg).1, fun i x hx j u hj => ?_⟩, hnc, fun b o e => by cases e; rfl⟩
    have e := RowT.flat_get I ok hx hj
    rw [Nat.zero_add, cell_of_row w g _ cur R.e (0, 0) hg]
    rw [← htake, List.getElem?_take] at e
    split at e
    · simpa using e
    · cases e
theorem RowT.own_nil (R : RowT κ) (w : World) (base : Nat) : R.Own w base (.slice none 0 0) [] := ⟨by simp [RowT.flat], .inl ⟨rfl, rfl⟩⟩
theorem RowT.Own.mono {w : World} {base b2 : Nat} {v : Value} {L : List κ} (h : R.Own w base v L) (hb : b2 ≤ base) : R.Own w b2 v L := by
  refine ⟨h.1, ?_⟩
  rcases h.2 with hn | ⟨g, cap, cur, rfl, hbg, rest⟩
  · exact .inl hn
  · exact .inr ⟨g, cap, cur, rfl, Nat.le_trans hb hbg, rest⟩
theorem RowT.run_app (I : R.Is) (w : World) (base : Nat) (v : Value) (L : List κ) (a : Option Addr) (M : List κ) (c : Nat) (hown : R.Own w base v L) (hb : R.At w a M) (ok : ∀ h ∈ M, R.ok h) (h63 : L.length + M.length ≤ maxLen) (h : ((L.length + M.length) + (L.length + M.length) / 4 + 192) * R.bytes ≤ 281474976710656) (hbase : base ≤ w.heap.size) :
    ∃ v' w', (Builtin.append_ #[R.t, R.t] R.t #[v, .slice a M.length c]).run Tryd.prog w = .ok v' w' ∧ R.Own w' base v' (L ++ M) ∧ w.grownBy w' v.ownBlock ∧ (v'.ownBlock = v.ownBlock ∨ v'.ownBlock = some w.heap.size) := by
  obtain ⟨i, hi, hz, hs, hby⟩ := info_parts I.info
  have zc : (Value.agg (R.c R.z).toArray).cells.size = R.k := by
    show (R.c R.z).toArray.size = R.k
    rw [List.size_toArray, I.len _ I.zok]
  cases a with
  | some ad =>
    have hnews : ∀ j u, (R.flat M)[j]? = some u → w.cell? (ad.add j) = some u := fun j u hj => by
      rcases hb with rfl | ⟨b, off, e, _, hc⟩
      · simp [RowT.flat] at hj
      · cases e
        obtain ⟨k, x, r, rfl, hx, hr⟩ := RowT.flat_inv I ok hj
        rw [Addr.add_mid, ← Nat.add_assoc]
        exact hc k x hx r u hr
    obtain ⟨v', w', hr, h2, h3, h5⟩ := app_at (P := Tryd.prog) w base R.t R.t R.e i _ R.k R.bytes I.und hi hz hs hby zc I.kpos v L.length (R.flat L) hown ad M.length c (R.flat M) (by rw [RowT.flat_len I ok, Nat.mul_comm]) hnews (RowT.flat_one I M) h63 h hbase
    refine ⟨v', w', hr, ?_, h3, h5⟩
    unfold RowT.Own
    rw [List.length_append, RowT.flat_app]
    exact h2
  | none =>
    obtain rfl : M = [] := by
      rcases hb with rfl | ⟨b, off, e, _⟩
      · rfl
      · cases e
    rcases hown.2 with ⟨rfl, hn⟩ | ⟨g, cap, cur, rfl, hbg, hg, hnc, rest⟩
    · refine ⟨.slice none 0 0, w, ?_, by rw [List.append_nil]; exact hown, ⟨rfl, rfl, rfl, Nat.le_refl _, fun _ _ _ => rfl⟩, .inl rfl⟩
      simp [Builtin.append_, run_underlying I.und, sizeOf, typeInfo, hi, Builtin.lenOf, Builtin.firstCells, loadCells, loadCellsFrom]
    · refine ⟨.slice (some ⟨g, 0, none⟩) L.length cap, w, ?_, by rw [List.append_nil]; exact hown, ⟨rfl, rfl, rfl, Nat.le_refl _, fun _ _ _ => rfl⟩, .inl rfl⟩
      simp [Builtin.append_, run_underlying I.und, sizeOf, typeInfo, hi, Builtin.lenOf, Builtin.firstCells, hnc, storeCells]
theorem RowT.lit (R : RowT κ) (w : World) (h : κ) (t : TypeId) : R.At (w.alloc (.cells (R.c h).toArray t)) (some ⟨w.heap.size, 0, none⟩) [h] :=
  .inr ⟨w.heap.size, 0, rfl, by simp, fun i x hx j v hj => by
    have hl := (List.getElem?_eq_some_iff.1 hx).1
    obtain rfl : i = 0 := by simp at hl; omega
    simp at hx
    subst hx
    rw [Nat.mul_zero, Nat.add_zero, Nat.zero_add]
    exact cell_new w (R.c h) t j v hj⟩
theorem RowT.run_bs (I : R.Is) (h : κ) (ok : R.ok h) (w : World) : (Instr.buildSlice R.t 1 #[(0, .agg (R.c h).toArray)]).run Tryd.prog w = .ok (.slice (some ⟨w.heap.size, 0, none⟩) 1 1) (w.alloc (.cells (R.c h).toArray R.e)) := by
  obtain ⟨ie, hi, hz, hs, hby⟩ := info_parts I.info
  refine run_buildSlice w R.t R.e 1 _ (R.c h).toArray ie _ I.und hi hz (by rw [hs]; have := I.kmax; have := I.kpos; omega) (by rw [hs]; have := I.kmax; have := I.kpos; omega) ?_
  rw [hs]
  have := Go.Great.fill_whole (s := R.k) I.kpos [.agg (R.c h).toArray] ((Array.range (1 * R.k)).map ((Value.agg (R.c R.z).toArray).cells[· % (Value.agg (R.c R.z).toArray).cells.size]!)) (by intro v hv; simp at hv; subst hv; show (R.c h).toArray.size = R.k; rw [List.size_toArray, I.len _ ok]) (by simp)
  simpa [Value.cells] using this
/-- One more at the end. -/
theorem RowT.run_push (I : R.Is) (w : World) (base : Nat) (v : Value) (L : List κ) (x : κ) (hown : R.Own w base v L) (ok : R.ok x) (h63 : L.length + 1 ≤ maxLen) (h : ((L.length + 1) + (L.length + 1) / 4 + 192) * R.bytes ≤ 281474976710656) (hbase : base ≤ w.heap.size) :
    ∃ sv w1 v' w', (Instr.buildSlice R.t 1 #[(0, .agg (R.c x).toArray)]).run Tryd.prog w = .ok sv w1 ∧ (Builtin.append_ #[R.t, R.t] R.t #[v, sv]).run Tryd.prog w1 = .ok v' w' ∧ R.Own w' base v' (L ++ [x]) ∧ Below w.heap.size w w1 ∧ w1.heap.size = w.heap.size + 1 ∧ w1.grownBy w' v.ownBlock ∧ (v'.ownBlock = v.ownBlock ∨ v'.ownBlock = some w1.heap.size) := by
  have b1 : Below w.heap.size w (w.alloc (.cells (R.c x).toArray R.e)) := (Below.refl _ _).alloc (Nat.le_refl _) _
  obtain ⟨v', w', e, o, g, q⟩ := RowT.run_app I _ base v L _ [x] 1 (hown.below b1) (RowT.lit R w x R.e) (fun y hy => by rw [List.mem_singleton.1 hy]; exact ok) h63 h (Nat.le_trans hbase b1.size)
  exact ⟨_, _, v', w', RowT.run_bs I x ok w, e, o, b1, by simp, g, q⟩
theorem RowT.sz (I : R.Is) : (Tryd.prog.info? R.e).map (·.size) = some R.k := by
  have := I.info
  cases q : Tryd.prog.info? R.e with
  | none => rw [q] at this; cases this
  | some i => rw [q] at this; simp at this ⊢; exact this.2.1
theorem RowT.ld (I : R.Is) {w : World} {b o : Nat} {x : κ} (hx : R.ok x) (h : w.rangeAt b o (R.c x)) : (Instr.loadAt R.e (.pointer (some ⟨b, o, none⟩))).run Tryd.prog w = .ok (.agg (R.c x).toArray) w := by
  obtain ⟨d, hd, hr⟩ := I.row
  exact run_loadAt_mid (P := Tryd.prog) w b o R.e (R.c x) d h hd hr (by rw [I.len x hx]; exact RowT.sz I)
theorem RowT.take_seg {α : Type} {cur FA y FB x : List α} {N o : Nat} (h : cur.take N = FA ++ y ++ FB) (hN : N = FA.length + y.length + FB.length) (ho : FA.length = o) (hx : x.length = y.length) : (cur.take o ++ x ++ cur.drop (o + x.length)).take N = FA ++ x ++ FB := by
  obtain ⟨R, hR⟩ : ∃ R, cur = FA ++ y ++ FB ++ R := ⟨cur.drop N, by rw [← h, List.take_append_drop]⟩
  subst hR
  have e1 : (FA ++ y ++ FB ++ R).take o = FA := by rw [← ho]; simp [List.append_assoc]
  have e2 : (FA ++ y ++ FB ++ R).drop (o + x.length) = FB ++ R := by
    rw [← ho, hx, ← List.length_append, List.append_assoc (FA ++ y), List.drop_left]
  rw [e1, e2, hN]
  rw [show FA ++ x ++ (FB ++ R) = (FA ++ x ++ FB) ++ R by simp]
  rw [show FA.length + y.length + FB.length = (FA ++ x ++ FB).length by simp [hx]; omega]
  exact List.take_left
/-- A row with another one at one place. -/
theorem RowT.own_set (I : R.Is) {w : World} {base : Nat} {v : Value} {L : List κ} (own : R.Own w base v L) (ok : ∀ x ∈ L, R.ok x) {i : Nat} (hi : i < L.length) {x : κ} (hx : R.ok x) :
    ∃ g cap, v = .slice (some ⟨g, 0, none⟩) L.length cap ∧ g < w.heap.size ∧ ∃ w', (Instr.storeAt R.e (.pointer (some ⟨g, R.k * i, none⟩)) (.agg (R.c x).toArray)).run Tryd.prog w = .ok () w' ∧ R.Own w' base v (L.set i x) ∧ Tch (fun j => v.ownBlock = some j) w w' ∧ w'.heap.size = w.heap.size := by
  rcases own.2 with ⟨rfl, hn⟩ | ⟨g, cap, cur, rfl, hbg, hg, hnc, hcm, hcs, htake⟩
  · omega
  · have hkn : R.k * i + R.k ≤ R.k * cap := by rw [← Nat.mul_succ]; exact Nat.mul_le_mul_left _ (by omega)
    refine ⟨g, cap, rfl, (Array.getElem?_eq_some_iff.1 hg).1, w.setRow g (cur.toList.take (R.k * i) ++ R.c x ++ cur.toList.drop (R.k * i + (R.c x).length)).toArray, ?_, ?_, setRow_tch w g _, by simp [World.setRow]⟩
    · have hlen := I.len x hx
      have hb : R.k * i + R.k ≤ cur.size := by rw [hcs, Nat.mul_comm cap]; exact hkn
      have h := run_storeCells_at Tryd.prog g (R.k * i) R.e (R.c x) 0 cur w hg (by rw [hlen]; omega) (fun v hv => I.one x v hv)
      rw [Nat.add_zero] at h
      have hs := RowT.sz I
      cases hq : Tryd.prog.info? R.e with
      | none => rw [hq] at hs; simp at hs
      | some ii =>
        rw [hq] at hs
        simp at hs
        have hcz : (R.c x).toArray.size = ii.size := by simp [hlen, hs]
        simp only [Instr.storeAt, Instr.sureAddr, Sem.run_bind, Sem.run_pure, Result.andThen_ok, storeVar, sizeOf, typeInfo, hq, Value.cells]
        simp [typeInfo, hq, hlen, hs, h]
    · have hA : ∃ A y B, L = A ++ y :: B ∧ A.length = i := ⟨L.take i, L[i], L.drop (i + 1), by rw [← List.drop_eq_getElem_cons hi, List.take_append_drop], by simp; omega⟩
      obtain ⟨A, y, B, rfl, hA⟩ := hA
      have okA : ∀ x ∈ A, R.ok x := fun x hx => ok x (by simp [hx])
      have okB : ∀ x ∈ B, R.ok x := fun x hx => ok x (by simp [hx])
      have oky : R.ok y := ok y (by simp)
      have hset : (A ++ y :: B).set i x = A ++ x :: B := by rw [← hA, List.set_append_right _ _ (Nat.le_refl _)]; simp
      rw [hset]
      have hfl : R.flat (A ++ x :: B) = R.flat A ++ R.c x ++ R.flat B := by rw [RowT.flat_app, RowT.flat_cons]; simp
      have hfl' : R.flat (A ++ y :: B) = R.flat A ++ R.c y ++ R.flat B := by rw [RowT.flat_app, RowT.flat_cons]; simp
      rw [hfl'] at htake
      have hlA := RowT.flat_len I okA
      have hlB := RowT.flat_len I okB
      have l1 := I.len y oky
      have l2 := I.len x hx
      have hlenx : (A ++ x :: B).length = (A ++ y :: B).length := by simp
      have hsum : R.k * (A ++ y :: B).length = R.k * A.length + R.k + R.k * B.length := by
        simp only [List.length_append, List.length_cons, Nat.mul_add, Nat.mul_one]; omega
      refine ⟨?_, Or.inr ⟨g, cap, _, by rw [hlenx], hbg, setRow_heap w g cur _ R.e (0, 0) hg, by rw [hlenx]; exact hnc, hcm, ?_, ?_⟩⟩
      · rw [hfl, hlenx, Nat.mul_comm, hsum]; simp only [List.length_append]; omega
      · rw [← hcs]
        have : cur.toList.length = cur.size := by simp
        have hb : R.k * i + R.k ≤ cur.size := by rw [hcs, Nat.mul_comm cap]; exact hkn
        simp only [List.size_toArray, List.length_append, List.length_take, List.length_drop]
        omega
      · rw [List.toList_toArray, hfl, hlenx]
        refine RowT.take_seg htake ?_ (by rw [hlA, hA]) (by omega)
        rw [Nat.mul_comm, hsum]
        omega
end
end Go.Proofs.YtldlljobofnmmabDoor
