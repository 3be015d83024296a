import Derived.Test.YtcpkdaebeopmaaaDoorSealW
import Derived.Test.YtcpkdaebeopmaaaDoorOpen
import Derived.Deep.DeepAppendWide
namespace Go.Proofs.YtcpkdaebeopmaaaDoor
open Go.RowKit
set_option linter.unusedVariables false
set_option linter.unusedSimpArgs false

theorem frame_at0 (k : UInt8) (b t : List UInt8) : at8 (frame k b ++ t) 0 = (k.toNat : Int) := rfl
theorem frame_body (k : UInt8) (b t : List UInt8) : ((frame k b ++ t).drop 9).take b.length = b := by
  have e : frame k b ++ t = head9 k b.length ++ (b ++ (be (crc (head9 k b.length ++ b)) ++ t)) := by unfold frame; simp [List.append_assoc]
  rw [e, List.drop_append_of_le_length (by rw [head9_len]; omega), List.drop_eq_nil_of_le (by rw [head9_len]; omega), List.nil_append, List.take_append_of_le_length (Nat.le_refl _), List.take_length]
theorem own_set {w : World} {base g n cap r : Nat} {F : List UInt8} (h : OwnB w base (.slice (some ⟨g, 0, none⟩) n cap) F) (x : UInt8) (hr : r < F.length) : OwnB (w.setCell ⟨g, r, none⟩ (.int .u8 (x.toNat : Int))) base (.slice (some ⟨g, 0, none⟩) n cap) (F.set r x) := by
  rcases h.2 with ⟨e, _⟩ | ⟨g', cap', cur, e, hbg, hg, hnc, hcm, hcs, htake⟩
  · cases e
  · cases e
    refine ⟨by rw [byC_len, List.length_set]; omega, .inr ⟨g, cap, _, by rw [List.length_set], hbg, heap_setCell_same w g r _ 5 _ hg, by rw [List.length_set]; exact hnc, hcm, by simpa using hcs, ?_⟩⟩
    rw [List.length_set, Array.toList_setIfInBounds, List.take_set, htake]
    simp [byC, List.map_set]
theorem own_cell {w : World} {base g n cap r : Nat} {F : List UInt8} (h : OwnB w base (.slice (some ⟨g, 0, none⟩) n cap) F) (hr : r < F.length) : w.cell? ⟨g, r, none⟩ = some (.int .u8 (at8 F r)) ∧ w.frozen? ⟨g, r, none⟩ = false := by
  rcases h.2 with ⟨e, _⟩ | ⟨g', cap', cur, e, hbg, hg, hnc, hcm, hcs, htake⟩
  · cases e
  · cases e
    refine ⟨?_, frozen_of_row w g r _ _ hg⟩
    rw [cell_of_row w g r cur 5 (0, 0) hg]
    have e : (byC F)[r]? = some (.int .u8 (at8 F r)) := by simp [byC, at8, List.getElem?_eq_getElem hr]
    rw [← htake, List.getElem?_take] at e
    split at e
    · simpa using e
    · cases e

theorem xor8 (x y : UInt8) : bits .xor .u8 (x.toNat : Int) (y.toNat : Int) = ((x ^^^ y).toNat : Int) := by
  rw [u8_xor_nat _ _ (UInt8.toNat_lt _) (UInt8.toNat_lt _), ← UInt8.toNat_xor]

theorem run_appw (w : World) (base : Nat) (ty : TypeId) (v : Value) (L : List UInt8) (a : Option Addr) (M : List UInt8) (c : Nat) (hown : OwnB w base v L) (hb : Byt w a M)
    (h : (L.length + M.length) + (L.length + M.length) / 4 + 192 ≤ 281474976710656) (hbase : base ≤ w.heap.size) :
    ∃ v' w', (Builtin.append_ #[22, 22] ty #[v, .slice a M.length c]).run Tryd.prog w = .ok v' w' ∧ OwnB w' base v' (L ++ M) ∧ w.grownBy w' v.ownBlock := by
  obtain ⟨i, hi, hz, hs, hby⟩ := info5'
  cases a with
  | some ad =>
    have hnews : ∀ j u, (byC M)[j]? = some u → w.cell? (ad.add j) = some u := fun j u hj => by
      obtain ⟨h1, rfl⟩ := byC_get _ j u hj
      rcases hb with rfl | ⟨b, off, e, hc⟩
      · simp at h1
      · cases e
        rw [Addr.add_mid]
        exact hc j h1
    obtain ⟨v', w', hr, h2, h3, _⟩ := run_append_own_wide (P := Tryd.prog) w base 22 ty 5 i (.int .u8 0) 1 1 Tryd.underlying22 hi hz hs hby rfl (by decide) v L.length (byC L) hown ad M.length c (byC M) (by rw [byC_len]; omega) hnews (byC_one _) (by unfold maxLen; omega) (by omega) hbase
    refine ⟨v', w', hr, ?_, h3⟩
    unfold OwnB
    rw [List.length_append, show byC (L ++ M) = byC L ++ byC M by simp [byC]]
    exact h2
  | none =>
    obtain rfl : M = [] := by
      rcases hb with rfl | ⟨b, off, e, _⟩
      · rfl
      · cases e
    rcases hown.2 with ⟨rfl, hn⟩ | ⟨g, cap, cur, rfl, hbg, hg, hnc, rest⟩
    · refine ⟨.slice none 0 0, w, ?_, by rw [List.append_nil]; exact hown, ⟨rfl, rfl, rfl, Nat.le_refl _, fun _ _ _ => rfl⟩⟩
      simp [Builtin.append_, run_underlying Tryd.underlying22, sizeOf, typeInfo, hi, Builtin.lenOf, Builtin.firstCells, loadCells, loadCellsFrom]
    · refine ⟨.slice (some ⟨g, 0, none⟩) L.length cap, w, ?_, by rw [List.append_nil]; exact hown, ⟨rfl, rfl, rfl, Nat.le_refl _, fun _ _ _ => rfl⟩⟩
      simp [Builtin.append_, run_underlying Tryd.underlying22, sizeOf, typeInfo, hi, Builtin.lenOf, Builtin.firstCells, hnc, storeCells]
theorem wpList_appw {ops : Array Oper} {rest : List Oper} {o : Oper} {a : Act} {w : World} {Q : Exit → Act → World → Prop} (hgd : o.guard = none) (s x : Operand)
    (ho : o.op = .call { callee := .builtin .append, args := #[s, x], argTypes := #[22, 22] }) (base : Nat) (v : Value) (L : List UInt8) (hs : a.eval s = v) (hown : OwnB w base v L)
    (aa : Option Addr) (m c : Nat) (M : List UInt8) (hx : a.eval x = .slice aa m c) (hm : M.length = m) (hb : Byt w aa M) (hlen : (L.length + M.length) + (L.length + M.length) / 4 + 192 ≤ 281474976710656) (hbase : base ≤ w.heap.size)
    (h : ∀ v' w', OwnB w' base v' (L ++ M) → w.grownBy w' v.ownBlock → wpList Tryd.prog ops Q rest (a.put o.dst v') w') : wpList Tryd.prog ops Q (o :: rest) a w :=
  wpList_plain hgd fun _ hK => by
    subst hm
    obtain ⟨v', w', hr, h2, h3⟩ := run_appw w base o.type v L aa M c hown hb hlen hbase
    unfold Oper.wp execOp
    simp only [ho, resolve, invoke, builtin, Sem.run_bind, Sem.run_pure, Result.andThen_ok, List.map_toArray, List.map_cons, List.map_nil, hs, hx, hr]
    exact hK _ _ (h v' w' h2 h3)

end Go.Proofs.YtcpkdaebeopmaaaDoor
