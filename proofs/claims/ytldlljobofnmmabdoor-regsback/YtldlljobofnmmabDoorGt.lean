import Derived.Test.YtldlljobofnmmabDoorGs
namespace Go.Proofs.YtldlljobofnmmabDoor
open Go.RowKit
set_option linter.unusedVariables false
set_option linter.unusedSimpArgs false

theorem st_atG {w : World} {g o n : Nat} {t ty : TypeId} {cur : Array Value} {v : Value} {vs : List Value} (hs : (Tryd.prog.info? t).map (·.size) = some n) (hv : v.cells = vs.toArray) (hl : vs.length = n) (h1 : ∀ x ∈ vs, x.oneCell' = true) (hg : w.heap[g]? = some (.cells cur ty (0, 0))) (hb : o + n ≤ cur.size) :
    (Instr.storeAt t (.pointer (some ⟨g, o, none⟩)) v).run Tryd.prog w = .ok () (w.setRow g (cur.toList.take o ++ vs ++ cur.toList.drop (o + vs.length)).toArray) := by
  have h := run_storeCells_at Tryd.prog g o ty vs 0 cur w hg (by rw [hl]; omega) h1
  rw [Nat.add_zero] at h
  cases hq : Tryd.prog.info? t with
  | none => rw [hq] at hs; simp at hs
  | some ii =>
    rw [hq] at hs
    simp at hs
    have hcz : v.cells.size = ii.size := by rw [hv]; simp [hl, hs]
    simp only [Instr.storeAt, Instr.sureAddr, Sem.run_bind, Sem.run_pure, Result.andThen_ok, storeVar, sizeOf, typeInfo, hq, hv]
    simp [typeInfo, hq, hl, hs, h]
section
variable {κ : Type} {R : RowT κ}
/-- Some cells of one element are other ones. -/
theorem RowT.own_seg (I : R.Is) {w : World} {base : Nat} {v0 : Value} {L : List κ} (own : R.Own w base v0 L) (ok : ∀ x ∈ L, R.ok x) {i : Nat} {y x : κ} (hi : L[i]? = some y) (hx : R.ok x) {q n : Nat} (vs : List Value) (hn : vs.length = n) (hf : R.c x = (R.c y).take q ++ vs ++ (R.c y).drop (q + n)) (hqn : q + n ≤ R.k) (h1 : ∀ u ∈ vs, u.oneCell' = true) {t : TypeId} {v : Value} (hs : (Tryd.prog.info? t).map (·.size) = some n) (hv : v.cells = vs.toArray) :
    ∃ g cap, v0 = .slice (some ⟨g, 0, none⟩) L.length cap ∧ g < w.heap.size ∧ ∃ w', (Instr.storeAt t (.pointer (some ⟨g, R.k * i + q, none⟩)) v).run Tryd.prog w = .ok () w' ∧ R.Own w' base v0 (L.set i x) ∧ Tch (fun j => v0.ownBlock = some j) w w' ∧ w'.heap.size = w.heap.size := by
  obtain ⟨hil, hiy⟩ := List.getElem?_eq_some_iff.1 hi
  rcases own.2 with ⟨rfl, hn⟩ | ⟨g, cap, cur, rfl, hbg, hg, hnc, hcm, hcs, htake⟩
  · omega
  · have hkn : R.k * i + R.k ≤ R.k * cap := by rw [← Nat.mul_succ]; exact Nat.mul_le_mul_left _ (by omega)
    have hb : R.k * i + R.k ≤ cur.size := by rw [hcs, Nat.mul_comm cap]; exact hkn
    refine ⟨g, cap, rfl, (Array.getElem?_eq_some_iff.1 hg).1, _, st_atG hs hv hn h1 hg (o := R.k * i + q) (by omega), ?_, setRow_tch w g _, by simp [World.setRow]⟩
    have hA : ∃ A B, L = A ++ y :: B ∧ A.length = i := ⟨L.take i, L.drop (i + 1), by rw [← hiy, ← List.drop_eq_getElem_cons hil, List.take_append_drop], by simp; omega⟩
    obtain ⟨A, B, rfl, hA⟩ := hA
    have okA : ∀ x ∈ A, R.ok x := fun x hx => ok x (by simp [hx])
    have okB : ∀ x ∈ B, R.ok x := fun x hx => ok x (by simp [hx])
    have oky : R.ok y := ok y (by simp)
    have hset : (A ++ y :: B).set i x = A ++ x :: B := by rw [← hA, List.set_append_right _ _ (Nat.le_refl _)]; simp
    rw [hset]
    have ly := I.len y oky
    have hlA := RowT.flat_len I okA
    have hlB := RowT.flat_len I okB
    have fc : R.flat (A ++ x :: B) = (R.flat A ++ (R.c y).take q) ++ vs ++ ((R.c y).drop (q + n) ++ R.flat B) := by
      rw [RowT.flat_app, RowT.flat_cons, hf]
      simp
    have fc' : R.flat (A ++ y :: B) = (R.flat A ++ (R.c y).take q) ++ ((R.c y).drop q).take n ++ ((R.c y).drop (q + n) ++ R.flat B) := by
      rw [RowT.flat_app, RowT.flat_cons]
      have : R.c y = (R.c y).take q ++ (((R.c y).drop q).take n ++ (R.c y).drop (q + n)) := by
        rw [← List.drop_drop, List.take_append_drop, List.take_append_drop]
      conv => lhs; rw [this]
      simp
    have hlenx : (A ++ x :: B).length = (A ++ y :: B).length := by simp
    have hsum : (A ++ y :: B).length * R.k = R.k * A.length + R.k + R.k * B.length := by
      rw [Nat.mul_comm]
      simp only [List.length_append, List.length_cons, Nat.mul_add, Nat.mul_one]; omega
    refine ⟨?_, Or.inr ⟨g, cap, _, by rw [hlenx], hbg, setRow_heap w g cur _ R.e (0, 0) hg, by rw [hlenx]; exact hnc, hcm, ?_, ?_⟩⟩
    · rw [fc, hlenx, hsum]
      simp only [List.length_append, List.length_take, List.length_drop, hlA, hlB, ly, hn]
      omega
    · rw [← hcs]
      have : cur.toList.length = cur.size := by simp
      simp only [List.size_toArray, List.length_append, List.length_take, List.length_drop, hn]
      omega
    · rw [List.toList_toArray, fc, hlenx]
      rw [fc'] at htake
      refine RowT.take_seg htake ?_ ?_ ?_
      · rw [hsum]
        simp only [List.length_append, List.length_take, List.length_drop, hlA, hlB, ly]
        omega
      · simp only [List.length_append, List.length_take, hlA, ly, hA]
        omega
      · simp only [List.length_take, List.length_drop, ly, hn]
        omega
end
end Go.Proofs.YtldlljobofnmmabDoor
