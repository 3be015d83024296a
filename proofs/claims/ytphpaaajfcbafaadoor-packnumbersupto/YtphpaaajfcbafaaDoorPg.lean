import Derived.Test.YtphpaaajfcbafaaDoorPd
namespace Go.Proofs.YtphpaaajfcbafaaDoor.K
open Go.RowKit
set_option linter.unusedVariables false
set_option linter.unusedSimpArgs false

/-- Numbers with a sign that lie in memory. -/
def Sgn (w : World) (a : Option Addr) (D : List Int) : Prop := D = [] ∨ ∃ b off, a = some ⟨b, off, none⟩ ∧ ∀ j, j < D.length → w.cell? ⟨b, off + j, none⟩ = some (.int .i64 (D.getD j 0))
theorem Sgn.below {w w' : World} {a : Option Addr} {L : List Int} (h : Sgn w a L) (hb : Below w.heap.size w w') : Sgn w' a L := by
  rcases h with rfl | ⟨b, off, rfl, hc⟩
  · exact .inl rfl
  · exact .inr ⟨b, off, rfl, fun j hj => (hb.cell (p := ⟨b, off + j, none⟩) (block_lt_of_cell (hc j hj))).trans (hc j hj)⟩
theorem Sgn.open {w : World} {a : Option Addr} {L : List Int} (h : Sgn w a L) (h0 : 0 < L.length) : ∃ b off, a = some ⟨b, off, none⟩ ∧ b < w.heap.size ∧ ∀ j, j < L.length → w.cell? ⟨b, off + j, none⟩ = some (.int .i64 (L.getD j 0)) := by
  rcases h with rfl | ⟨b, off, rfl, hc⟩
  · simp at h0
  · exact ⟨b, off, rfl, block_lt_of_cell (hc 0 h0), hc⟩
def I64 (x : Int) : Prop := -9223372036854775808 ≤ x ∧ x < 9223372036854775808
/-- What stands at a place, less what stands ahead, folded. -/
def dl (D : List Int) (j : Nat) : Nat := zig (IntKind.i64.wrap (D.getD j 0 - if j = 0 then 0 else D.getD (j - 1) 0))
def dls (D : List Int) : List Nat := (List.range D.length).map (dl D)
theorem dls_len (D : List Int) : (dls D).length = D.length := by simp [dls]
theorem wrap_I64 (x : Int) : I64 (IntKind.i64.wrap x) := by rw [IntKind.wrap_i64]; unfold I64; omega
theorem zig_lt (x : Int) (h : I64 x) : zig x < 18446744073709551616 := by unfold I64 at h; unfold zig; split <;> omega
theorem dl_lt (D : List Int) (j : Nat) : dl D j < 18446744073709551616 := zig_lt _ (wrap_I64 _)
theorem dls_lt (D : List Int) : ∀ x ∈ dls D, x < 18446744073709551616 := by
  intro x hx
  simp [dls] at hx
  obtain ⟨j, _, rfl⟩ := hx
  exact dl_lt D j
theorem dls_get (D : List Int) (j : Nat) (h : j < D.length) : (dls D).getD j 0 = dl D j := by simp [dls, h]
theorem not64r (x : Nat) (h : x < 18446744073709551616) : bits .xor .u64 (x : Int) 18446744073709551615 = ((18446744073709551615 - x : Nat) : Int) := by
  show IntKind.u64.wrap ((BitVec.ofInt 64 (x : Int) ^^^ BitVec.ofInt 64 18446744073709551615).toNat : Int) = _
  rw [show BitVec.ofInt 64 18446744073709551615 = BitVec.allOnes 64 by decide, BitVec.xor_allOnes, BitVec.toNat_not, BitVec.toNat_ofInt, IntKind.wrap_u64]
  omega
theorem xor0 (x : Nat) (h : x < 18446744073709551616) : bits .xor .u64 (x : Int) 0 = (x : Int) := by
  show IntKind.u64.wrap ((BitVec.ofInt 64 (x : Int) ^^^ BitVec.ofInt 64 0).toNat : Int) = _
  rw [show BitVec.ofInt 64 0 = 0#64 by decide, BitVec.xor_zero, BitVec.toNat_ofInt, IntKind.wrap_u64]
  omega
set_option maxRecDepth 100000 in
set_option maxHeartbeats 1000000 in
theorem fold_any (x : Int) (w : World) (h : I64 x) : Calls Tryd.prog 30 #[.int .i64 x] w fun e w' => e = .returned (.int .u64 (zig x : Int)) ∧ w' = w := by
  obtain ⟨h0, h1⟩ := h
  by_cases hn : x < 0
  · have e1 : x / 9223372036854775808 = -1 := by omega
    have e2 : bits .xor .u64 (IntKind.u64.wrap (IntKind.u64.wrap x * 2)) (IntKind.u64.wrap (-1)) = (zig x : Int) := by
      have e3 : IntKind.u64.wrap (IntKind.u64.wrap x * 2) = (((18446744073709551616 + 2 * x).toNat : Nat) : Int) := by
        rw [IntKind.wrap_u64, IntKind.wrap_u64]
        omega
      rw [e3, show IntKind.u64.wrap (-1) = 18446744073709551615 by decide, not64r _ (by omega)]
      unfold zig
      rw [if_pos hn]
      omega
    have HE := Hid.mk' e2
    clear e2
    go_enter Tryd.func30, Tryd.ntmps30
    go_wp2
    go_ret
    exact ⟨ret_int HE.out, rfl⟩
  · have e1 : x / 9223372036854775808 = 0 := by omega
    have HE : Hid (bits .xor .u64 (x * 2) 0 = (zig x : Int)) := by
      show _ = _
      have e3 : x * 2 = (((x * 2).toNat : Nat) : Int) := by omega
      rw [e3, xor0 _ (by omega)]
      unfold zig
      rw [if_neg hn]
      omega
    go_enter Tryd.func30, Tryd.ntmps30
    go_wp2
    go_ret
    exact ⟨ret_int HE.out, rfl⟩
set_option maxRecDepth 100000 in
theorem index22 (b n cap k : Nat) (w : World) (hk : k < n) : (Instr.indexAt 24 (.slice (some ⟨b, 0, none⟩) n cap) (.int .i64 (k : Int))).run Tryd.prog w = .ok (.pointer (some ⟨b, k, none⟩)) w := by
  rw [run_indexAt_slice (P := Tryd.prog) _ _ _ _ _ _ _ Tryd.underlying24]
  have hsz : (sizeOf (Tryd.prog.elem 24)).run Tryd.prog w = .ok 1 w := by kernel_rfl
  simp [hk, hsz, Addr.add_mid]
theorem ownB_base {w : World} {base b2 : Nat} {v : Value} {L : List UInt8} (h : OwnB w base v L) (hb : b2 ≤ base) : OwnB w b2 v L := by
  refine ⟨h.1, ?_⟩
  rcases h.2 with hn | ⟨gg, cap, cur, e, hg, r⟩
  · exact .inl hn
  · exact .inr ⟨gg, cap, cur, e, Nat.le_trans hb hg, r⟩
def pv (D : List Int) (k : Nat) : Int := if k = 0 then 0 else D.getD (k - 1) 0
theorem dl_pv (D : List Int) (k : Nat) : dl D k = zig (IntKind.i64.wrap (D.getD k 0 - pv D k)) := rfl
theorem pv_succ (D : List Int) (k : Nat) : pv D (k + 1) = D.getD k 0 := by simp [pv]
set_option maxRecDepth 100000 in
set_option maxHeartbeats 4000000 in
/-- Deltas -/
theorem deltas_any (a : Option Addr) (D : List Int) (n cap : Nat) (w : World) (hn : D.length = n) (h : Sgn w a D) (hb : D.length ≤ 17592186044416) :
    Calls Tryd.prog 14 #[.slice a n cap] w fun e w' => ∃ v, e = .returned v ∧ OwnB w' w.heap.size v (rn (dls D)) ∧ Below w.heap.size w w' := by
  subst hn
  have mk2 := run_make_row' (P := Tryd.prog) 24 35 (.int .u64 0) 8 Tryd.underlying24 info24 rfl .i64 .i64 D.length (by omega) (by omega)
  have HS := Hid.mk' h
  have H0 : Hid ((w.alloc (.cells (madeCells #[.int .u64 0] D.length) 35)).rowIs w.heap.size 35 D.length (fun j => if j < 0 then .int .u64 (dl D j : Int) else .int .u64 0)) := (World.rowIs_made w (.int .u64 0) D.length 35).congr (fun j _ => by rw [if_neg (by omega)])
  have HB0 : Hid (Below w.heap.size w (w.alloc (.cells (madeCells #[.int .u64 0] D.length) 35))) := (Below.refl _ _).alloc (Nat.le_refl _) _
  clear h
  go_enter Tryd.func14, Tryd.ntmps14
  go_wp2
  clear mk2
  generalize hB : w.heap.size = B at *
  have HBB := Hid.mk' hB
  clear hB
  go_loopw [4, 5, 6, 12] (fun ah _ _ i wr => ∃ k : Nat, k ≤ D.length ∧ i = .int .i64 (k : Int) ∧ ah = .int .i64 (pv D k) ∧ Hid (wr.rowIs B 35 D.length (fun j => if j < k then .int .u64 (dl D j : Int) else .int .u64 0)) ∧ Hid (Below B w wr)) (fun _ _ _ i _ => D.length - (intOf i).toNat)
  case atStart => exact ⟨0, by omega, rfl, rfl, H0, HB0⟩
  case round =>
    obtain ⟨k, hk, rfl, rfl, HR, HBe⟩ := hrel
    clear H0 HB0
    by_cases hkn : k < D.length
    · have hkn' : (k : Int) < (D.length : Int) := by omega
      obtain ⟨b, off, rfl, hbl, hc⟩ := HS.out.open (by omega)
      have c1 : wr.cell? ⟨b, off + k, none⟩ = some (.int .i64 (D.getD k 0)) := (HBe.out.cell (p := ⟨b, off + k, none⟩) (by rw [← HBB.out]; exact hbl)).trans (hc k hkn)
      have HF : Hid (∀ v W, v = IntKind.i64.wrap (D.getD k 0 - pv D k) → Calls Tryd.prog 30 #[.int .i64 v] W fun e w' => e = .returned (.int .u64 (dl D k : Int)) ∧ w' = W) := fun v W hv => by subst hv; exact fold_any _ W (wrap_I64 _)
      have ix2 := fun wx => index22 B D.length D.length k wx hkn
      have c2 : ∃ v, wr.cell? ⟨B, k, none⟩ = some (.int .u64 v) := ⟨0, by have := HR.out.cell hkn; rw [this, if_neg (by omega)]⟩
      obtain ⟨v0, c2⟩ := c2
      have f2 : wr.frozen? ⟨B, k, none⟩ = false := HR.out.frozen k
      have HN : Hid ((wr.setCell ⟨B, k, none⟩ (.int .u64 (dl D k : Int))).rowIs B 35 D.length (fun j => if j < k + 1 then .int .u64 (dl D j : Int) else .int .u64 0)) := (HR.out.set k _).congr (fun j _ => by
        by_cases e : j = k
        · subst e
          rw [if_pos rfl, if_pos (by omega)]
        · rw [if_neg e]
          by_cases e2 : j < k
          · rw [if_pos e2, if_pos (by omega)]
          · rw [if_neg e2, if_neg (by omega)])
      have HBN : Hid (Below B w (wr.setCell ⟨B, k, none⟩ (.int .u64 (dl D k : Int)))) := HBe.out.setCell (p := ⟨B, k, none⟩) (Nat.le_refl _) _
      have HP := Hid.mk' (pv_succ D k)
      generalize dl D k = dk at *
      generalize hx : D.getD k 0 = x at *
      generalize pv D k = q at *
      clear hc hx
      go_wp2_with (first
        | (go_at_call 30; refine (HF.out _ _ (by first | rfl | (rw [IntKind.wrap_i64]; omega) | (rw [IntKind.wrap_i64]; unfold wrap64; omega))).mono ?_; rintro e W1 ⟨rfl, hw1⟩; obtain rfl := hw1)
        | fail)
      go_roundw
      case rel => exact ⟨k + 1, by omega, by go_num, by rw [HP.out], HN, HBN⟩
      case measure => simp [intOf]; omega
    · obtain rfl : k = D.length := by omega
      have hkn' : ¬ (D.length : Int) < (D.length : Int) := by omega
      have HF : Hid (Nums wr (some ⟨B, 0, none⟩) (dls D)) := .inr ⟨B, 0, rfl, fun j hj => by
        rw [dls_len] at hj
        rw [Nat.zero_add, HR.out.cell hj, if_pos hj, dls_get D j hj]⟩
      have HC := Hid.mk' (runs_any (some ⟨B, 0, none⟩) (dls D) D.length D.length wr (dls_len D) (by rw [dls_len]; exact Nat.le_refl _) HF.out (dls_lt D) (by rw [dls_len]; exact hb))
      clear HR HF
      go_wp2_with (first
        | (go_at_call 13; refine HC.out.mono ?_; rintro e W1 ⟨v, rfl, o1, b1⟩; have O1 := Hid.mk' o1; have B1 := Hid.mk' b1; clear o1 b1)
        | fail)
      go_ret
      have hz : B ≤ wr.heap.size := by rw [← HBB.out]; exact HBe.out.size
      exact ⟨v, rfl, ownB_base O1.out HBe.out.size, by rw [HBB.out]; exact HBe.out.trans (B1.out.mono hz)⟩
end Go.Proofs.YtphpaaajfcbafaaDoor.K
