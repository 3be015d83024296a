import Derived.Test.YtldlljobofnmmabDoorGn
namespace Go.Proofs.YtldlljobofnmmabDoor
open Go.RowKit
set_option linter.unusedVariables false
set_option linter.unusedSimpArgs false

section
variable {κ : Type} {R : RowT κ}
/-- A row that lies in a block of the call's own, which may be longer than the row's room. -/
def RowT.Lo (R : RowT κ) (w : World) (base : Nat) (v : Value) (L : List κ) : Prop :=
  (v = .slice none 0 0 ∧ L = []) ∨ ∃ g cap cur, v = .slice (some ⟨g, 0, none⟩) L.length cap ∧ base ≤ g ∧ w.heap[g]? = some (.cells cur R.e (0, 0)) ∧ L.length ≤ cap ∧ cap ≤ maxLen ∧ cap * R.k ≤ cur.size ∧ cur.toList.take (L.length * R.k) = R.flat L
theorem RowT.Own.lo {w : World} {base : Nat} {v : Value} {L : List κ} (h : R.Own w base v L) : R.Lo w base v L := by
  rcases h.2 with ⟨rfl, hn⟩ | ⟨g, cap, cur, rfl, hbg, hg, hnc, hcm, hcs, ht⟩
  · exact .inl ⟨rfl, List.eq_nil_of_length_eq_zero hn⟩
  · exact .inr ⟨g, cap, cur, rfl, hbg, hg, hnc, hcm, by omega, ht⟩
theorem RowT.lo_nil (R : RowT κ) (w : World) (base : Nat) : R.Lo w base (.slice none 0 0) [] := .inl ⟨rfl, rfl⟩
theorem RowT.Lo.keep {w w' : World} {base : Nat} {v : Value} {L : List κ} (h : R.Lo w base v L) (hk : ∀ k, v.ownBlock = some k → w'.heap[k]? = w.heap[k]?) : R.Lo w' base v L := by
  rcases h with hn | ⟨g, cap, cur, rfl, hbg, hg, rest⟩
  · exact .inl hn
  · exact .inr ⟨g, cap, cur, rfl, hbg, by rw [hk g rfl]; exact hg, rest⟩
theorem RowT.Lo.cells {w : World} {base : Nat} {v : Value} {L : List κ} (h : R.Lo w base v L) {k : Nat} (hk : v.ownBlock = some k) : base ≤ k ∧ ∃ c, w.heap[k]? = some (.cells c R.e (0, 0)) := by
  rcases h with ⟨rfl, _⟩ | ⟨g, cap, cur, rfl, hb, hg, _⟩
  · cases hk
  · simp only [Value.ownBlock, Option.some.injEq] at hk
    subst hk
    exact ⟨hb, _, hg⟩
theorem RowT.Lo.lt {w : World} {base : Nat} {v : Value} {L : List κ} (h : R.Lo w base v L) {k : Nat} (hk : v.ownBlock = some k) : k < w.heap.size := by
  obtain ⟨_, c, e⟩ := h.cells hk
  exact (Array.getElem?_eq_some_iff.1 e).1
theorem RowT.Lo.below {w w' : World} {base : Nat} {v : Value} {L : List κ} (h : R.Lo w base v L) (hb : Below w.heap.size w w') : R.Lo w' base v L := h.keep (fun k hk => hb.block k (h.lt hk))
theorem RowT.Lo.mono {w : World} {base b2 : Nat} {v : Value} {L : List κ} (h : R.Lo w base v L) (hb : b2 ≤ base) : R.Lo w b2 v L := by
  rcases h with hn | ⟨g, cap, cur, rfl, hbg, rest⟩
  · exact .inl hn
  · exact .inr ⟨g, cap, cur, rfl, Nat.le_trans hb hbg, rest⟩
theorem RowT.Lo.open {w : World} {base : Nat} {v : Value} {L : List κ} (I : R.Is) (h : R.Lo w base v L) (ok : ∀ h ∈ L, R.ok h) : ∃ a c, v = .slice a L.length c ∧ R.At w a L ∧ L.length ≤ c ∧ c ≤ maxLen ∧ (∀ b o, a = some ⟨b, o, none⟩ → v.ownBlock = some b) := by
  rcases h with ⟨rfl, rfl⟩ | ⟨g, cap, cur, rfl, hbg, hg, hnc, hcm, hcs, htake⟩
  · exact ⟨none, 0, rfl, .inl rfl, Nat.le_refl _, by decide, fun b o e => by cases e⟩
  · refine ⟨some ⟨g, 0, none⟩, cap, rfl, .inr ⟨g, 0, rfl, (Array.getElem?_eq_some_iff.1 hg).1, fun i x hx j u hj => ?_⟩, hnc, hcm, fun b o e => by cases e; rfl⟩
    have e := RowT.flat_get I ok hx hj
    rw [Nat.zero_add, cell_of_row w g _ cur R.e (0, 0) hg]
    rw [← htake, List.getElem?_take] at e
    split at e
    · simpa using e
    · cases e
/-- append onto it. -/
theorem RowT.lo_app (I : R.Is) (w : World) (base : Nat) (v : Value) (L : List κ) (okL : ∀ h ∈ L, R.ok h) (a : Option Addr) (M : List κ) (c : Nat) (hown : R.Lo w base v L) (hb : R.At w a M) (ok : ∀ h ∈ M, R.ok h) (h63 : L.length + M.length ≤ maxLen) (h : ((L.length + M.length) + (L.length + M.length) / 4 + 192) * R.bytes ≤ 281474976710656) (hbase : base ≤ w.heap.size) :
    ∃ v' w', (Builtin.append_ #[R.t, R.t] R.t #[v, .slice a M.length c]).run Tryd.prog w = .ok v' w' ∧ R.Lo w' base v' (L ++ M) ∧ w.grownBy w' v.ownBlock ∧ (v'.ownBlock = v.ownBlock ∨ v'.ownBlock = some w.heap.size) ∧ R.Lo w' base v L := by
  have hown0 := hown
  rcases hown with ⟨rfl, rfl⟩ | ⟨g, cap, cur, rfl, hbg, hg, hnc, hcm, hcs, htake⟩
  · obtain ⟨v', w', e, o, g, q⟩ := RowT.run_app I w base (.slice none 0 0) [] a M c (RowT.own_nil R w base) hb ok h63 h hbase
    exact ⟨v', w', e, o.lo, g, q, .inl ⟨rfl, rfl⟩⟩
  · obtain ⟨i, hi, hz, hs, hby⟩ := info_parts I.info
    have zc : (Value.agg (R.c R.z).toArray).cells.size = R.k := by
      show (R.c R.z).toArray.size = R.k
      rw [List.size_toArray, I.len _ I.zok]
    have lL := RowT.flat_len I okL
    have lM := RowT.flat_len I ok
    have fa : R.flat (L ++ M) = R.flat L ++ R.flat M := RowT.flat_app L M
    have hbig : L.length + M.length ≤ 9223372036854775807 := by simp only [maxLen] at h63; omega
    cases a with
    | none =>
      obtain rfl : M = [] := by
        rcases hb with rfl | ⟨b, off, e, _⟩
        · rfl
        · cases e
      refine ⟨.slice (some ⟨g, 0, none⟩) L.length cap, w, ?_, by rw [List.append_nil]; exact .inr ⟨g, cap, cur, rfl, hbg, hg, hnc, hcm, hcs, htake⟩, ⟨rfl, rfl, rfl, Nat.le_refl _, fun _ _ _ => rfl⟩, .inl rfl, hown0⟩
      simp [Builtin.append_, run_underlying I.und, sizeOf, typeInfo, hi, Builtin.lenOf, Builtin.firstCells, hnc, storeCells]
    | some ad =>
      have hnews : ∀ j u, (R.flat M)[j]? = some u → w.cell? (ad.add j) = some u := fun j u hj => by
        rcases hb with rfl | ⟨b, off, e, _, hc⟩
        · simp [RowT.flat] at hj
        · cases e
          obtain ⟨k, x, r, rfl, hx, hr⟩ := RowT.flat_inv I ok hj
          rw [Addr.add_mid, ← Nat.add_assoc]
          exact hc k x hx r u hr
      by_cases hroom : L.length + M.length ≤ cap
      · have hfit : L.length * i.size + (R.flat M).length ≤ cur.size := by
          rw [lM, hs, Nat.mul_comm R.k, ← Nat.add_mul]
          exact Nat.le_trans (Nat.mul_le_mul_right _ hroom) hcs
        have hr := run_append_room (P := Tryd.prog) w R.t R.t R.e i I.und hi g L.length cap cur hg ad M.length c (R.flat M) (by rw [lM, hs, Nat.mul_comm]) hnews (RowT.flat_one I M) hroom hfit
        refine ⟨_, _, hr, .inr ⟨g, cap, _, by rw [List.length_append], hbg, setRow_heap w g cur _ R.e _ hg, by rw [List.length_append]; exact hroom, hcm, ?_, ?_⟩, ⟨rfl, rfl, rfl, by simp, fun k _ hk => setRow_other w g k _ (fun e => hk (by simp [Value.ownBlock, e]))⟩, .inl rfl, .inr ⟨g, cap, _, rfl, hbg, setRow_heap w g cur _ R.e _ hg, hnc, hcm, ?_, ?_⟩⟩
        · simp only [List.size_toArray, List.length_append, List.length_take, List.length_drop, Array.length_toList]
          omega
        · rw [List.toList_toArray, hs, htake, fa, List.length_append, Nat.add_mul, show L.length * R.k + M.length * R.k = (R.flat L ++ R.flat M).length by rw [List.length_append, lL, lM, Nat.mul_comm R.k, Nat.mul_comm R.k]]
          exact List.take_left
        · simp only [List.size_toArray, List.length_append, List.length_take, List.length_drop, Array.length_toList]
          omega
        · rw [List.toList_toArray, hs, htake, List.append_assoc, show L.length * R.k = (R.flat L).length by rw [lL, Nat.mul_comm]]
          exact List.take_left
      · have holds : ∀ j u, (R.flat L)[j]? = some u → w.cell? ((⟨g, 0, none⟩ : Addr).add j) = some u := fun j u hj => by
          rw [Addr.add_mid, Nat.zero_add, cell_of_row w g _ cur R.e (0, 0) hg]
          rw [← htake, List.getElem?_take] at hj
          split at hj
          · simpa using hj
          · cases hj
        have hr := run_append_grow (P := Tryd.prog) w R.t R.t R.e i _ I.und hi hz ⟨g, 0, none⟩ L.length cap (R.flat L) (by rw [lL, hs, Nat.mul_comm]) holds ad M.length c (R.flat M) (by rw [lM, hs, Nat.mul_comm]) hnews (by omega) (by omega) (by rw [hby]; exact growslice_fits_wide (by omega) h)
        have hge := grownCap_ge w (L.length + M.length) cap R.e
        have hcm2 : grownCap w (L.length + M.length) cap R.e ≤ maxLen := grownCap_le_maxLen w (L.length + M.length) cap R.e h63
        refine ⟨_, _, hr, .inr ⟨w.heap.size, _, _, by rw [List.length_append], hbase, heap_alloc_new w.drew _, by rw [List.length_append]; exact hge, hcm2, ?_, ?_⟩, ⟨rfl, rfl, rfl, by simp, fun k hk _ => heap_alloc_old w.drew _ hk⟩, .inr rfl, hown0.keep (fun k hk => heap_alloc_old w.drew _ (hown0.lt hk))⟩
        · simp only [Array.size_append, List.size_toArray, size_zeroCells, zc, lL, lM]
          rw [Nat.mul_comm R.k, Nat.mul_comm R.k, ← Nat.add_mul, ← Nat.add_mul]
          refine Nat.mul_le_mul_right _ ?_
          omega
        · simp only [Array.toList_append, List.append_assoc]
          rw [← List.append_assoc, fa, List.length_append, Nat.add_mul, show L.length * R.k + M.length * R.k = (R.flat L ++ R.flat M).length by rw [List.length_append, lL, lM, Nat.mul_comm R.k, Nat.mul_comm R.k]]
          exact List.take_left
/-- One more at the end. -/
theorem RowT.lo_push (I : R.Is) (w : World) (base : Nat) (v : Value) (L : List κ) (okL : ∀ h ∈ L, R.ok h) (x : κ) (hown : R.Lo w base v L) (ok : R.ok x) (h63 : L.length + 1 ≤ maxLen) (h : ((L.length + 1) + (L.length + 1) / 4 + 192) * R.bytes ≤ 281474976710656) (hbase : base ≤ w.heap.size) :
    ∃ sv w1 v' w', (Instr.buildSlice R.t 1 #[(0, .agg (R.c x).toArray)]).run Tryd.prog w = .ok sv w1 ∧ (Builtin.append_ #[R.t, R.t] R.t #[v, sv]).run Tryd.prog w1 = .ok v' w' ∧ R.Lo w' base v' (L ++ [x]) ∧ Below w.heap.size w w1 ∧ w1.heap.size = w.heap.size + 1 ∧ w1.grownBy w' v.ownBlock ∧ (v'.ownBlock = v.ownBlock ∨ v'.ownBlock = some w1.heap.size) ∧ R.Lo w' base v L := by
  have b1 : Below w.heap.size w (w.alloc (.cells (R.c x).toArray R.e)) := (Below.refl _ _).alloc (Nat.le_refl _) _
  obtain ⟨v', w', e, o, g, q, ol⟩ := RowT.lo_app I _ base v L okL _ [x] 1 (hown.below b1) (RowT.lit R w x R.e) (fun y hy => by rw [List.mem_singleton.1 hy]; exact ok) h63 h (Nat.le_trans hbase b1.size)
  exact ⟨_, _, v', w', RowT.run_bs I x ok w, e, o, b1, by simp, g, q, ol⟩
/-- Its first n, without room behind them. -/
theorem RowT.Lo.cut (I : R.Is) {w : World} {base : Nat} {v : Value} {L : List κ} (okL : ∀ h ∈ L, R.ok h) (h : R.Lo w base v L) {n : Nat} (hn : n ≤ L.length) : ∃ v', (∀ a c, v = .slice a L.length c → v' = .slice a n n) ∧ R.Lo w base v' (L.take n) ∧ v'.ownBlock = v.ownBlock := by
  rcases h with ⟨rfl, rfl⟩ | ⟨g, cap, cur, rfl, hbg, hg, hnc, hcm, hcs, htake⟩
  · have : n = 0 := by simpa using hn
    subst this
    exact ⟨.slice none 0 0, fun a c e => by cases e; rfl, .inl ⟨rfl, rfl⟩, rfl⟩
  · have hl : (L.take n).length = n := by simp; omega
    refine ⟨.slice (some ⟨g, 0, none⟩) n n, fun a c e => by cases e; rfl, .inr ⟨g, n, cur, by rw [hl], hbg, hg, by omega, by omega, Nat.le_trans (Nat.mul_le_mul_right _ (by omega)) hcs, ?_⟩, rfl⟩
    have hf : R.flat L = R.flat (L.take n) ++ R.flat (L.drop n) := by rw [← RowT.flat_app, List.take_append_drop]
    have lt := RowT.flat_len I (L := L.take n) (fun x hx => okL x (List.mem_of_mem_take hx))
    rw [hl] at lt
    rw [hl]
    have h1 : cur.toList.take (n * R.k) = (cur.toList.take (L.length * R.k)).take (n * R.k) := by rw [List.take_take, Nat.min_eq_left (Nat.mul_le_mul_right _ hn)]
    rw [h1, htake, hf, show n * R.k = (R.flat (L.take n)).length by rw [lt, Nat.mul_comm]]
    exact List.take_left
end
end Go.Proofs.YtldlljobofnmmabDoor
