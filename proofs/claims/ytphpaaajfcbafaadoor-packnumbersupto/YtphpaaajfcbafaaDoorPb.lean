import Derived.Test.YtphpaaajfcbafaaDoorPa
namespace Go.Proofs.YtphpaaajfcbafaaDoor.K
open Go.RowKit
set_option linter.unusedVariables false
set_option linter.unusedSimpArgs false

/-- Numbers without a sign that lie in memory. -/
def Nums (w : World) (a : Option Addr) (L : List Nat) : Prop := L = [] ∨ ∃ b off, a = some ⟨b, off, none⟩ ∧ ∀ j, j < L.length → w.cell? ⟨b, off + j, none⟩ = some (.int .u64 ((L.getD j 0 : Nat) : Int))
theorem Nums.below {w w' : World} {a : Option Addr} {L : List Nat} (h : Nums w a L) (hb : Below w.heap.size w w') : Nums w' a L := by
  rcases h with rfl | ⟨b, off, rfl, hc⟩
  · exact .inl rfl
  · exact .inr ⟨b, off, rfl, fun j hj => (hb.cell (p := ⟨b, off + j, none⟩) (block_lt_of_cell (hc j hj))).trans (hc j hj)⟩
theorem Nums.drew {w : World} {a : Option Addr} {L : List Nat} (h : Nums w a L) (m : Nat) : Nums (w.drewN m) a L := h.below (K.below_drewN (Below.refl _ _) m)
theorem Nums.open {w : World} {a : Option Addr} {L : List Nat} (h : Nums w a L) (h0 : 0 < L.length) : ∃ b off, a = some ⟨b, off, none⟩ ∧ b < w.heap.size ∧ ∀ j, j < L.length → w.cell? ⟨b, off + j, none⟩ = some (.int .u64 ((L.getD j 0 : Nat) : Int)) := by
  rcases h with rfl | ⟨b, off, rfl, hc⟩
  · simp at h0
  · exact ⟨b, off, rfl, block_lt_of_cell (hc 0 h0), hc⟩
set_option maxRecDepth 100000 in
set_option maxHeartbeats 2000000 in
theorem alike_any (a : Option Addr) (L : List Nat) (n cap : Nat) (w : World) (hn : L.length = n) (h : Nums w a L) (h0 : 0 < L.length) (hb : L.length ≤ 17592186044416) :
    Calls Tryd.prog 24 #[.slice a n cap] w fun e w' => e = .returned (.int .i64 (al L : Int)) ∧ ∃ m, w' = w.drewN m := by
  subst hn
  obtain ⟨b, off, rfl, hlt, hc⟩ := h.open h0
  have c0 : w.cell? ⟨b, off, none⟩ = some (.int .u64 ((L.getD 0 0 : Nat) : Int)) := hc 0 h0
  have HC := Hid.mk' hc
  clear h hc
  generalize hy : L.getD 0 0 = y at c0
  have HY := Hid.mk' hy
  clear hy
  go_enter Tryd.func24, Tryd.ntmps24
  go_wp2
  go_loopw [3] (fun x wr => ∃ k : Nat, x = .int .i64 (k : Int) ∧ 1 ≤ k ∧ k ≤ L.length ∧ Hid (L.getD (k - 1) 0 = y) ∧ Hid (al L = k - 1 + al (L.drop (k - 1))) ∧ ∃ m, wr = w.drewN m) (fun x _ => L.length - (intOf x).toNat)
  case atStart => exact ⟨1, rfl, by omega, by omega, HY.out, by show _ = _; simp, 0, rfl⟩
  case round =>
    obtain ⟨k, rfl, h1, h2, HK, HA, m, rfl⟩ := hrel
    by_cases hlt : k < L.length
    · have ck := HC.out k hlt
      have hlt' : (k : Int) < (L.length : Int) := by omega
      generalize hx : L.getD k 0 = x at ck
      by_cases he : x = y
      · have HN : Hid (al L = k + 1 - 1 + al (L.drop (k + 1 - 1))) := by
          show _ = _
          have e1 : L.getD (k - 1) 0 = L.getD (k - 1 + 1) 0 := by
            rw [show k - 1 + 1 = k by omega, hx, he]; exact HK.out
          have e2 := al_same L (k - 1) (by omega) e1
          rw [show k - 1 + 1 = k by omega] at e2
          rw [HA.out, e2, show k + 1 - 1 = k by omega]
          omega
        have HX : Hid (L.getD (k + 1 - 1) 0 = y) := by show _ = _; rw [show k + 1 - 1 = k by omega, hx, he]
        clear HA HK hx
        subst he
        go_wp2
        go_quiet (fail)
        go_wp2
        go_roundw
        case rel => exact ⟨k + 1, by go_num, by omega, by omega, HX, HN, _, rfl⟩
        case measure => simp [intOf]; omega
      · have HN : Hid (al L = k) := by
          show _ = _
          have e1 : L.getD (k - 1) 0 ≠ L.getD (k - 1 + 1) 0 := by
            rw [show k - 1 + 1 = k by omega, hx, HK.out]; exact fun e => he e.symm
          have e2 := al_other L (k - 1) (by omega) e1
          rw [HA.out, e2]
          omega
        have he1 : ((x : Int) == (y : Int)) = false := by simp; omega
        clear HA HK hx he
        go_wp2
        go_quiet (fail)
        go_wp2
        go_ret
        exact ⟨by rw [HN.out]; rfl, _, by first | rfl | exact World.drewN_drewN _ _ _⟩
    · have hk : k = L.length := by omega
      have HN : Hid (al L = k) := by
        show _ = _
        rw [HA.out, al_last L (k - 1) (by omega)]
        omega
      have hlt' : ¬ (k : Int) < (L.length : Int) := by omega
      clear HA HK hk
      go_wp2
      go_quiet (fail)
      go_wp2
      go_ret
      exact ⟨by rw [HN.out]; rfl, _, by first | rfl | exact World.drewN_drewN _ _ _⟩
set_option maxRecDepth 100000 in
set_option maxHeartbeats 2000000 in
theorem unlike_any (a : Option Addr) (L : List Nat) (n cap : Nat) (w : World) (hn : L.length = n) (h : Nums w a L) (h0 : 0 < L.length) (hb : L.length ≤ 17592186044416) :
    Calls Tryd.prog 27 #[.slice a n cap] w fun e w' => e = .returned (.int .i64 (ul L : Int)) ∧ ∃ m, w' = w.drewN m := by
  subst hn
  obtain ⟨b, off, rfl, hlt, hc⟩ := h.open h0
  have HC := Hid.mk' hc
  clear h hc
  go_enter Tryd.func27, Tryd.ntmps27
  go_wp2
  go_loopw [3] (fun x wr => ∃ k : Nat, x = .int .i64 (k : Int) ∧ 1 ≤ k ∧ k ≤ L.length ∧ Hid (ul L = k - 1 + ul (L.drop (k - 1))) ∧ ∃ m, wr = w.drewN m) (fun x _ => L.length - (intOf x).toNat)
  case atStart => exact ⟨1, rfl, by omega, by omega, by show _ = _; simp, 0, rfl⟩
  case round =>
    obtain ⟨k, rfl, h1, h2, HA, m, rfl⟩ := hrel
    obtain ⟨q, rfl⟩ : ∃ q, k = q + 1 := ⟨k - 1, by omega⟩
    by_cases hlt : q + 1 < L.length
    · have ck := HC.out (q + 1) hlt
      have cq := HC.out q (by omega)
      have hlt' : ((q + 1 : Nat) : Int) < (L.length : Int) := by omega
      have hq : ((q + 1 : Nat) : Int) - 1 = (q : Int) := by omega
      generalize hx : L.getD (q + 1) 0 = x at ck
      generalize hy : L.getD q 0 = y at cq
      have HA2 : Hid (ul L = q + ul (L.drop q)) := HA.out
      clear HA
      by_cases he : x = y
      · have HN : Hid (ul L = q) := by
          show _ = _
          rw [HA2.out, ul_same L q hlt (by rw [hx, hy, he])]
          omega
        clear HA2 hx hy
        subst he
        generalize hz : q + 1 = k at *
        clear hz
        go_wp2
        go_quiet (fail)
        go_wp2
        go_ret
        exact ⟨by rw [HN.out]; rfl, _, by first | rfl | exact World.drewN_drewN _ _ _⟩
      · have HN : Hid (ul L = q + 1 + 1 - 1 + ul (L.drop (q + 1 + 1 - 1))) := by
          show _ = _
          rw [HA2.out, ul_other L q hlt (by rw [hx, hy]; exact fun e => he e.symm)]
          simp
          omega
        have he1 : ((x : Int) == (y : Int)) = false := by simp; omega
        clear HA2 hx hy he
        generalize hz : q + 1 = k at *
        clear hz
        go_wp2
        go_quiet (fail)
        go_wp2
        go_roundw
        case rel => exact ⟨k + 1, by go_num, by omega, by omega, HN, _, rfl⟩
        case measure => simp [intOf]; omega
    · have HN : Hid (ul L = L.length) := by
        show _ = _
        rw [HA.out, ul_last L (q + 1 - 1) (by omega)]
        omega
      have hlt' : ¬ ((q + 1 : Nat) : Int) < (L.length : Int) := by omega
      clear HA
      go_wp2
      go_ret
      exact ⟨by rw [HN.out]; rfl, _, by first | rfl | exact World.drewN_drewN _ _ _⟩
end Go.Proofs.YtphpaaajfcbafaaDoor.K
