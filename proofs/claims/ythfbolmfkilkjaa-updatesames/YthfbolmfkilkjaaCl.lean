import Derived.Test.YthfbolmfkilkjaaHh
import Derived.WalkLawsBesides
import Derived.Deep.DeepAppendWide
import Derived.OwnWalk
import Derived.Lib.BufferMore
import Derived.Maps.AppendAt
namespace Go.Proofs.Ythfbolmfkilkjaa
open Go.RowKit
set_option linter.unusedVariables false
set_option linter.unusedSimpArgs false

/-- The cells of a list of hashes. -/
def flat (L : List (List UInt8)) : List Value := L.flatMap hcs
theorem flat_len {L : List (List UInt8)} (h : All32 L) : (flat L).length = L.length * 32 := by
  induction L with
  | nil => rfl
  | cons x r ih =>
    have h1 := h x (by simp)
    have h2 := ih (fun y hy => h y (by simp [hy]))
    simp only [flat, List.flatMap_cons, List.length_append, List.length_cons] at h2 ⊢
    rw [h2, hcs_len, h1]
    omega
theorem flat_get {L : List (List UInt8)} (h : All32 L) (i j : Nat) (x : List UInt8) (hx : L[i]? = some x) (hj : j < 32) : (flat L)[i * 32 + j]? = (hcs x)[j]? := by
  induction L generalizing i with
  | nil => simp at hx
  | cons y r ih =>
    have h1 := h y (by simp)
    have hl : (hcs y).length = 32 := by rw [hcs_len, h1]
    simp only [flat, List.flatMap_cons]
    cases i with
    | zero =>
      simp at hx
      subst hx
      rw [List.getElem?_append_left (by omega)]
      simp
    | succ i =>
      rw [List.getElem?_append_right (by omega), hl, show (i + 1) * 32 + j - 32 = i * 32 + j by omega]
      exact ih (fun z hz => h z (by simp [hz])) i (by simpa using hx)
theorem flat_app (L M : List (List UInt8)) : flat (L ++ M) = flat L ++ flat M := by simp [flat]
theorem flat_one (L : List (List UInt8)) : ∀ v ∈ flat L, v.oneCell' = true := by
  intro v hv
  simp only [flat, List.mem_flatMap] at hv
  obtain ⟨x, _, hx⟩ := hv
  exact hcs_one x v hx
/-- A slice of the call's own that holds hashes. -/
def OwnH (w : World) (base : Nat) (v : Value) (L : List (List UInt8)) : Prop := All32 L ∧ w.ownsRow base 29 32 v L.length (flat L)
theorem OwnH.nil (w : World) (base : Nat) : OwnH w base (.slice none 0 0) [] := ⟨fun _ h => by simp at h, World.ownsRow_nil w base 29 32⟩
theorem OwnH.open {w : World} {base : Nat} {v : Value} {L : List (List UInt8)} (h : OwnH w base v L) :
    (v = .slice none 0 0 ∧ L = []) ∨ ∃ g cap, v = .slice (some ⟨g, 0, none⟩) L.length cap ∧ L.length ≤ cap ∧ base ≤ g ∧ g < w.heap.size ∧ Hs w g 0 L ∧ w.there g 0 (32 * L.length) := by
  obtain ⟨hL, hlen, ⟨rfl, hn⟩ | ⟨g, cap, cur, rfl, hbg, hg, hnc, hcm, hcs', htake⟩⟩ := h
  · exact .inl ⟨rfl, List.eq_nil_of_length_eq_zero hn⟩
  · have hcell : ∀ j, j < 32 * L.length → w.cell? ⟨g, 0 + j, none⟩ = (flat L)[j]? := fun j hj => by
      rw [Nat.zero_add, cell_of_row w g j cur _ (0, 0) hg, ← htake, List.getElem?_take, if_pos (by omega)]
      simp
    refine .inr ⟨g, cap, rfl, hnc, hbg, (Array.getElem?_eq_some_iff.1 hg).1, ?_, ?_⟩
    · intro i x hx j v hv
      have hi := (List.getElem?_eq_some_iff.1 hx).1
      have hj : j < 32 := by have := (List.getElem?_eq_some_iff.1 hv).1; rwa [hcs_len, hL.get hx] at this
      have := hcell (i * 32 + j) (by omega)
      rw [flat_get hL i j x hx hj, hv] at this
      rw [show 0 + 32 * i + j = 0 + (i * 32 + j) by omega]
      exact this
    · intro j hj
      refine ⟨?_, ?_⟩
      · rw [hcell j hj, List.getElem?_eq_getElem (by rw [flat_len hL]; omega)]; rfl
      · rw [Nat.zero_add]; exact frozen_of_row w g j cur _ hg
theorem OwnH.below {w w' : World} {base : Nat} {v : Value} {L : List (List UInt8)} (h : OwnH w base v L) (hb : Below w.heap.size w w') : OwnH w' base v L := by
  refine ⟨h.1, h.2.1, ?_⟩
  rcases h.2.2 with hn | ⟨g, cap, cur, rfl, hbg, hg, rest⟩
  · exact .inl hn
  · exact .inr ⟨g, cap, cur, rfl, hbg, by rw [hb.block g (Array.getElem?_eq_some_iff.1 hg).1]; exact hg, rest⟩
theorem zsize : (Value.agg (bs z32)).cells.size = 32 := by show (bs z32).size = 32; rw [bs_size]; rfl

theorem run_appH (w : World) (base : Nat) (ty : TypeId) (v : Value) (L : List (List UInt8)) (a : Addr) (M : List (List UInt8)) (c : Nat) (hown : OwnH w base v L) (hM : All32 M) (hb : Hl w (some a) M)
    (h : L.length + M.length ≤ 4398046511104 + 4096) (hbase : base ≤ w.heap.size) :
    ∃ v' w', (Builtin.append_ #[22, 22] ty #[v, .slice (some a) M.length c]).run Try.prog w = .ok v' w' ∧ OwnH w' base v' (L ++ M) ∧ w.grownBy w' v.ownBlock ∧ (v' = .slice none 0 0 ↔ v = .slice none 0 0 ∧ M.length = 0) := by
  obtain ⟨i, hi, hz, hs, hby⟩ := infoH
  have hnews : ∀ j u, (flat M)[j]? = some u → w.cell? (a.add j) = some u := fun j u hj => by
    have hlt : j < M.length * 32 := by have := (List.getElem?_eq_some_iff.1 hj).1; rwa [flat_len hM] at this
    rcases hb with rfl | ⟨b, off, e, hc⟩
    · simp at hlt
    · cases e
      have hx : M[j / 32]? = some M[j / 32] := List.getElem?_eq_getElem (by omega)
      have h1 := flat_get hM (j / 32) (j % 32) _ hx (by omega)
      rw [show j / 32 * 32 + j % 32 = j by omega, hj] at h1
      have h2 := hc (j / 32) _ hx (j % 32) u h1.symm
      rw [Addr.add_mid]
      rwa [show off + 32 * (j / 32) + j % 32 = off + j by omega] at h2
  obtain ⟨v', w', hr, h2, h3, h4⟩ := run_append_own_wide (P := Try.prog) w base 22 ty 29 i (.agg (bs z32)) 32 32 Try.underlying22 hi hz hs hby zsize (by omega) v L.length (flat L) hown.2 a M.length c (flat M) (flat_len hM) hnews (flat_one M) (by unfold maxLen; omega) (by omega) hbase
  refine ⟨v', w', hr, ⟨?_, ?_⟩, h3, h4⟩
  · intro x hx
    rcases List.mem_append.1 hx with hx | hx
    · exact hown.1 x hx
    · exact hM x hx
  · rw [List.length_append, flat_app]; exact h2
theorem wpList_appH {ops : Array Oper} {rest : List Oper} {o : Oper} {a : Act} {w : World} {Q : Exit → Act → World → Prop} (hgd : o.guard = none) (s x : Operand)
    (ho : o.op = .call { callee := .builtin .append, args := #[s, x], argTypes := #[22, 22] }) (base : Nat) (v : Value) (L : List (List UInt8)) (hs : a.eval s = v) (hown : OwnH w base v L)
    (aa : Addr) (m c : Nat) (M : List (List UInt8)) (hx : a.eval x = .slice (some aa) m c) (hm : M.length = m) (hM : All32 M) (hb : Hl w (some aa) M) (hlen : L.length + M.length ≤ 4398046511104 + 4096) (hbase : base ≤ w.heap.size)
    (h : ∀ v' w', OwnH w' base v' (L ++ M) → w.grownBy w' v.ownBlock → (v' = .slice none 0 0 ↔ v = .slice none 0 0 ∧ M.length = 0) → wpList Try.prog ops Q rest (a.put o.dst v') w') : wpList Try.prog ops Q (o :: rest) a w :=
  wpList_plain hgd fun _ hK => by
    subst hm
    obtain ⟨v', w', hr, h2, h3, h4⟩ := run_appH w base o.type v L aa M c hown hM hb hlen hbase
    unfold Oper.wp execOp
    simp only [ho, resolve, invoke, builtin, Sem.run_bind, Sem.run_pure, Result.andThen_ok, List.map_toArray, List.map_cons, List.map_nil, hs, hx, hr]
    exact hK _ _ (h v' w' h2 h3 h4)

set_option maxHeartbeats 1000000 in
/-- A clone of nil is nil. -/
theorem cloneH_nil (w : World) : Calls Try.prog 10 #[.slice none 0 0] w fun e w' => e = .returned (.slice none 0 0) ∧ w' = w := by
  have hnil : ∀ W, (binOp .eql 22 (.slice none 0 0) (.slice none 0 0)).run Try.prog W = .ok (.bool true) W := fun W => Lib.run_eql_slice_nil_nil W 0 0 Try.underlying22
  go_enter Try.func10, Try.ntmps10
  go_wp2
  go_ret
  exact ⟨rfl, rfl⟩

set_option maxHeartbeats 1000000 in
theorem cloneH_any (a : Addr) (L : List (List UInt8)) (cap : Nat) (w : World) (hL : All32 L) (hn : L.length ≤ 4398046511104) (hl : Hl w (some a) L) :
    Calls Try.prog 10 #[.slice (some a) L.length cap] w fun e w' => ∃ g cap', e = .returned (.slice (some ⟨g, 0, none⟩) L.length cap') ∧ OwnH w' w.heap.size (.slice (some ⟨g, 0, none⟩) L.length cap') L ∧ Below w.heap.size w w' := by
  obtain ⟨n, hnn⟩ : ∃ n, n = L.length := ⟨_, rfl⟩
  rw [← hnn] at hn ⊢
  have HN : Hid (n = L.length) := hnn
  have hnil : ∀ W, (binOp .eql 22 (.slice (some a) n cap) (.slice none 0 0)).run Try.prog W = .ok (.bool false) W := fun W => Lib.run_eql_slice_some_nil W _ _ _ Try.underlying22
  have O0 : Hid (OwnH (w.alloc (.cells #[] 29)) w.heap.size (.slice (some ⟨w.heap.size, 0, none⟩) 0 0) []) := ⟨fun _ h => by simp at h, rfl, .inr ⟨w.heap.size, 0, #[], rfl, Nat.le_refl _, heap_alloc_new _ _, by simp, by simp [maxLen], rfl, rfl⟩⟩
  have be0 : Below w.heap.size w (w.alloc (.cells #[] 29)) := (Below.refl _ _).alloc (Nat.le_refl _) _
  have B0 : Hid (Hl (w.alloc (.cells #[] 29)) (some a) L) := hl.below hL be0
  have S0 : Hid (([] : List (List UInt8)).length + L.length ≤ 4398046511104 + 4096) := by show _ ≤ _; simp; omega
  have Z0 : Hid (w.heap.size ≤ (w.alloc (.cells #[] 29)).heap.size) := by show _ ≤ _; simp
  have HL32 : Hid (All32 L) := hL
  have hln : Hid (L.length = n) := hnn.symm
  clear hnn hl hL
  go_enter Try.func10, Try.ntmps10
  go_wp2_with (first | (at_builtin; refine wpList_appH rfl (.tmp 5) (.tmp 6) rfl w.heap.size (.slice (some ⟨w.heap.size, 0, none⟩) 0 0) [] rfl O0.out a n cap L rfl hln.out HL32.out B0.out S0.out Z0.out ?_) | fail)
  intro v w1 own1 grow1 hv
  have be1 : Below w.heap.size w w1 := be0.grown grow1 Z0.out (fun k hk => (World.ownsRow.lt O0.out.2 k hk).1)
  have own2 : OwnH w1 w.heap.size v L := by simpa using own1
  obtain ⟨g, cap', hvv⟩ : ∃ g cap', v = .slice (some ⟨g, 0, none⟩) n cap' := by
    rcases own2.open with ⟨h1, _⟩ | ⟨g, cap', h1, _⟩
    · exact (hv h1).elim
    · exact ⟨g, cap', by rw [h1, ← HN.out]⟩
  subst hvv
  have OW : Hid (OwnH w1 w.heap.size (.slice (some ⟨g, 0, none⟩) n cap') L) := own2
  clear own1 own2 grow1 O0 B0 S0 Z0 hv
  go_wp2
  go_ret
  exact ⟨g, cap', rfl, OW.out, be1⟩
end Go.Proofs.Ythfbolmfkilkjaa
